package store

import (
	"slices"
	"strings"
	"testing"

	"paycycle/api"
	"paycycle/plain"
	"paycycle/rules"
	"paycycle/value"
)

// TestS3EachCut: whatever is kept and is to be kept, and wherever the power goes, it is one of both.
func TestS3EachCut(t *testing.T) {
	for _, was := range someTexts() {
		for _, next := range someTexts() {
			ready := keeping(t, "first", was)
			for at := range 36 {
				for _, late := range []bool{false, true} {
					d := ready.again(-1, false)
					s := opened(t, d)
					d.at, d.late = at, late
					err := s.Save(next)
					want := []string{was, next}
					if err == api.OK {
						want = want[1:]
					} else if err != api.ErrPower {
						t.Fatalf("Save = %d", err)
					}
					got, err := opened(t, d.again(-1, false)).Text()
					if !slices.Contains(want, got) || err != api.OK {
						t.Fatalf("power goes at %d, from %.20q to %.20q: %.60q, %d", at, was, next, got, err)
					}
				}
			}
		}
	}
}

func TestS3Plain(t *testing.T) {
	for power := range api.MaxWrites + 2 {
		d := plain.NewDisk(api.MinSectors, -1)
		saveIs(t, opened(t, d), "was", api.OK)
		d = d.After(power)
		text := strings.Repeat("next", 500)
		want := "was"
		switch err := opened(t, d).Save(text); err {
		case api.OK:
			want = text
		case api.ErrPower:
			if power >= api.MaxWrites {
				t.Errorf("more than %d sectors are written", power)
			}
		default:
			t.Errorf("Save = %d", err)
		}
		textIs(t, opened(t, d.After(-1)), want, api.OK)
	}
}

// TestS3AgainAndAgain: power that goes many times, behind whole saves and such as were cut off, and while stores are opened and read.
func TestS3AgainAndAgain(t *testing.T) {
	var r draw
	cut, whole := 0, 0
	for range 300 {
		d := newWorn(api.MinSectors)
		kept := ""
		for range 30 {
			d = d.again(r.below(120), r.below(2) == 0)
			s, err := Open(d)
			for err == api.OK {
				var got string
				if got, err = s.Text(); err == api.OK && got != kept {
					t.Fatalf("%.60q is kept; want %.60q", got, kept)
				}
				next := r.text(r.below(2) * r.below(api.MaxStored+1))
				switch err = s.Save(next); err {
				case api.OK:
					kept = next
					whole++
				case api.ErrPower:
					cut++
					got, _ := opened(t, d.again(-1, false)).Text()
					if got != kept && got != next {
						t.Fatalf("%.60q is neither %.60q nor %.60q", got, kept, next)
					}
					kept = got
				}
			}
			if err != api.ErrPower {
				t.Fatalf("the power went, but %d", err)
			}
		}
	}
	if cut < 1000 || whole < 1000 {
		t.Errorf("%d were cut off, %d not", cut, whole)
	}
}

// TestRulesOutliveThePower: what is kept are the rules of before, or those that were saved, and they come to the same.
func TestRulesOutliveThePower(t *testing.T) {
	known := api.Known{Inputs: []api.Amount{{Name: "pay", Money: 290001}}}
	texts, values := []string{}, [][]int{}
	for _, text := range []string{"earn wage = pay; tax due = 12.50 % of wage;", "let half = pay / 2; earn wage = min(half, 1000) + 3; take union = 1 % of wage; " + strings.Repeat("# rest\n", 20)} {
		l, _ := rules.Parse(text)
		printed, err := rules.Print(l)
		if err != api.OK {
			t.Fatal(err)
		}
		came, _, _ := value.Lines(l, known)
		texts, values = append(texts, printed), append(values, came)
	}
	for at := range 12 {
		d := keeping(t, texts[0])
		s := opened(t, d)
		d.at = at
		s.Save(texts[1])
		got, _ := opened(t, d.again(-1, false)).Text()
		l, fault := rules.Parse(got)
		came, _, err := value.Lines(l, known)
		which := slices.Index(texts, got)
		if which < 0 || fault != (api.Fault{}) || err != api.OK || !slices.Equal(came, values[which]) {
			t.Errorf("power goes at %d: %q comes to %v", at, got, came)
		}
	}
}
