package house

import (
	"slices"
	"testing"

	"paycycle/api"
	"paycycle/bank"
	"paycycle/code"
	"paycycle/history"
	"paycycle/period"
	"paycycle/plain"
	"paycycle/retro"
	"paycycle/rules"
	"paycycle/store"
	"paycycle/value"
)

// What the whole promises, of companies.

// knownOf a person in the company's period, with some years.
func knownOf(d *draw, c api.Company, p api.Person) api.Known {
	known := api.Known{Tables: c.Tables}
	days, _ := period.At(c.Schedule, c.Period)
	for _, in := range p.Inputs {
		n, _, _ := history.At(in.Rows, days.From, c.Today)
		known.Inputs = append(known.Inputs, of(in.Name, n))
	}
	for _, line := range c.Lines {
		known.Years = append(known.Years, of(line.Name, d.below(9000)))
	}
	slices.SortFunc(known.Years, func(a, b api.Amount) int { return slices.Compare([]byte(a.Name), []byte(b.Name)) })
	return known
}

func TestWholeTheMachineComesToWhatLinesComeTo(t *testing.T) {
	var d draw
	for range 2000 {
		c := atWork(drawCompany(&d), 1, d.below(20), 0)
		for _, p := range c.Persons {
			known := knownOf(&d, c, p)
			want, _, wantErr := value.Lines(c.Lines, known)
			ops, err := code.Make(c.Lines, known)
			if err != api.OK {
				t.Fatalf("Make: %d", err)
			}
			got, _, gotErr := code.Run(ops, len(c.Lines), known)
			if !slices.Equal(got, want) || gotErr != wantErr {
				t.Errorf("steps come to %v, %d; lines to %v, %d", got, gotErr, want, wantErr)
			}
		}
	}
}

// A change makes a difference; with what was reckoned ahead of it, it is what is reckoned afresh behind it.
func TestWholeWhatCameLater(t *testing.T) {
	var d draw
	differ := 0
	for range 500 {
		c := drawCompany(&d)
		was := c.Today
		c.Today += 1 + d.below(20)
		number := 1 + d.below(9)
		after, err := Change(c, number, "pay", row(d.below(300), c.Today, d.below(9000)))
		if err != api.OK {
			continue
		}
		for _, p := range after.Persons {
			before, err1 := retro.Fresh(plan(after, p), 0, 6, was)
			now, err2 := retro.Fresh(plan(after, p), 0, 6, after.Today)
			delta, err := retro.Delta(plan(after, p), 0, 6, was, after.Today)
			if err1 != api.OK || err2 != api.OK || err != api.OK {
				continue
			}
			for i := range after.Lines {
				sum := delta[i]
				for k := range now {
					sum += before[k][i] - now[k][i]
				}
				if sum != 0 {
					t.Errorf("line %d is %d off", i, sum)
				}
				differ += min(1, max(delta[i], -delta[i]))
			}
		}
	}
	if differ == 0 {
		t.Error("no change made a difference")
	}
}

func TestWholeNoOneReleasesAlone(t *testing.T) {
	var d draw
	released := 0
	for range 1500 {
		c := atWork(monthly(0, "earn wage = 9;", person(1, "anna")), 1, 0, 0)
		for range 40 {
			after, file, err := Act(c, api.Act{Action: oneOf(&d, c.Run.State+1, 1+d.below(7)), Who: 1 + d.below(4)})
			if err != api.OK {
				continue
			}
			c = after
			who := c.Run.Who
			if file == "" {
				continue
			}
			released++
			if who[1] == who[2] || who[1] == who[3] || who[2] == who[3] || who[5] == who[3] || who[5] == who[4] {
				t.Errorf("released by %v", who)
			}
		}
	}
	if released < 100 {
		t.Errorf("%d runs were released", released)
	}
}

func TestWholeOneDigitAnotherOne(t *testing.T) {
	c := atWork(usual(), 2, 2, api.RunFunded)
	c.Today, c.Journal = 49, nil
	_, file, err := Act(c, api.Act{Action: api.RunReleased, Who: 9})
	if err != api.OK {
		t.Fatal(err)
	}
	for at := range file {
		if file[at] < '0' || file[at] > '9' {
			continue
		}
		for digit := byte('0'); digit <= '9'; digit++ {
			other := file[:at] + string([]byte{digit}) + file[at+1:]
			if _, _, fault := bank.Parse(other); (fault == api.Fault{}) != (other == file) {
				t.Errorf("%q: %v", other, fault)
			}
		}
	}
}

// Rules outlive the power: wherever it goes, the company has the rules of before or those that were saved, and reckons by them.
func TestWholeRulesOutliveThePower(t *testing.T) {
	reckonBy := func(text string) string {
		c := usual()
		c.Slips = nil
		l, fault := rules.Parse(text)
		if fault != (api.Fault{}) {
			t.Fatalf("%q is no text of rules: %v", text, fault)
		}
		c.Lines = l
		slips, err := Reckon(c)
		return told(slips) + told(err)
	}
	printed := func(text string) string {
		s, err := rules.Print(parsed(text))
		if err != api.OK {
			t.Fatalf("Print: %d", err)
		}
		return s
	}
	was := printed("earn salary = pay; tax levy = 20 % of salary;")
	next := printed("earn salary = pay; let base = salary / 2; tax levy = 30 % of base; tax due = table t of base; take union = min(5, 1 % of pay); take loan = if pay < 50 then 0 else 10 - year loan;")
	kept := map[string]int{}
	for power := range api.MaxWrites + 1 {
		d := plain.NewDisk(api.MinSectors, -1)
		save(t, d, was, api.OK)
		d = d.After(power)
		s, _ := store.Open(d)
		saved := s.Save(next)
		s, err := store.Open(d.After(-1))
		if err != api.OK {
			t.Fatalf("Open: %d", err)
		}
		text, _ := s.Text()
		switch {
		case text != was && text != next, saved == api.OK && text != next, saved != api.OK && saved != api.ErrPower:
			t.Errorf("power goes behind %d writes: %q, %d", power, text, saved)
		}
		if got := reckonBy(text); got != reckonBy(was) && got != reckonBy(next) {
			t.Errorf("power goes behind %d writes: %s", power, got)
		}
		kept[text]++
	}
	if reckonBy(was) == reckonBy(next) || kept[was] == 0 || kept[next] == 0 {
		t.Errorf("both rules are the same, or not both were kept: %v", kept)
	}
}

func save(t *testing.T, d api.Disk, text string, want api.Errno) {
	t.Helper()
	s, err := store.Open(d)
	if err != api.OK {
		t.Fatalf("Open: %d", err)
	}
	if err := s.Save(text); err != want {
		t.Fatalf("Save: %d", err)
	}
}
