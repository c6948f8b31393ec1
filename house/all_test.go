package house

import (
	"math"
	"sync"
	"testing"

	"paycycle/api"
)

// What is promised for all chapters.

// answers of all calls of a company, whatever becomes of them.
func answers(c api.Company) []any {
	var l []any
	add := func(things ...any) { l = append(l, things...) }
	closed := c
	closed.Run = brought(api.RunClosed)
	opened, err := Open(closed, 3)
	add(opened, err)
	slips, err := Reckon(c)
	add(slips, err)
	for _, s := range c.Slips {
		entry, some, err := Entry(c, s)
		add(entry, some, err)
		net, err := Net(c, s)
		add(net, err)
		for _, cascade := range []bool{false, true} {
			after, numbers, err := Void(c, s.Number, cascade)
			add(after, numbers, err)
		}
	}
	for state := range 7 {
		at := c
		at.Run = brought(state)
		after, file, err := Act(at, api.Act{Action: state + 1, Who: 50})
		add(after, file, err)
	}
	for _, p := range c.Persons {
		after, err := Change(c, p.Number, "pay", row(5, c.Today, 9))
		add(after, err)
	}
	add(Check(c))
	return l
}

func TestAllP2InputsAreOnlyRead(t *testing.T) {
	for _, c := range []api.Company{roomy(usual()), roomy(big()), roomy(monthly(0, "earn a = 1;"))} {
		before := deepCopy(c)
		answers(c)
		same(t, "behind calls, what was handed in", c, before)
		same(t, "and the spare room", spare(c), spare(before))
	}
}

// spare has the company with all that lies behind its lists, one deep.
func spare(c api.Company) []any {
	l := []any{c.Lines[:cap(c.Lines)], c.Tables[:cap(c.Tables)], c.Persons[:cap(c.Persons)], c.Slips[:cap(c.Slips)], c.Journal[:cap(c.Journal)]}
	for _, line := range c.Lines {
		l = append(l, line.Expr.Kids[:cap(line.Expr.Kids)])
	}
	for _, table := range c.Tables {
		l = append(l, table.Brackets[:cap(table.Brackets)])
	}
	for _, p := range c.Persons {
		l = append(l, p.Inputs[:cap(p.Inputs)])
		for _, in := range p.Inputs {
			l = append(l, in.Rows[:cap(in.Rows)])
		}
	}
	for _, s := range c.Slips {
		l = append(l, s.Totals[:cap(s.Totals)])
	}
	for _, e := range c.Journal {
		l = append(l, e.Postings[:cap(e.Postings)])
	}
	return l
}

// No two lists of an answer share memory, nor does one share any with what was handed in, even where lists that were handed in do.
func TestAllP2AnswersAreNewMemory(t *testing.T) {
	shared := roomy(usual())
	shared.Persons[1].Inputs = shared.Persons[0].Inputs
	shared.Slips[0].Totals = shared.Slips[1].Totals
	shared.Journal[0].Postings = shared.Journal[1].Postings
	for _, c := range []api.Company{roomy(usual()), usual(), shared, roomy(atWork(crowd(3, 5, 4, 0), 1, 0, 0)), roomy(monthly(0, "earn a = 1;"))} {
		if apart(memory(c, c)) && len(memory(c)) > 0 {
			t.Fatal("memory that is shared is not seen")
		}
		for _, answer := range answers(c) {
			if !apart(memory(answer)) {
				t.Errorf("two lists share memory: %.300s", told(answer))
			}
			for _, part := range memory(answer) {
				for _, given := range memory(c) {
					if part.from < given.to && given.from < part.to {
						t.Errorf("a list shares memory with what was handed in: %.300s", told(answer))
					}
				}
			}
		}
	}
}

func TestAllP3TheSameEachTime(t *testing.T) {
	for _, c := range []api.Company{usual(), big(), atWork(crowd(3, 5, 20, 2), 1, 0, 0)} {
		want := told(answers(c))
		var all sync.WaitGroup
		for range 8 {
			all.Go(func() {
				for range 5 {
					if got := told(answers(c)); got != want {
						t.Errorf("%.1000s; want %.1000s", got, want)
					}
				}
			})
		}
		all.Wait()
	}
}

// wild spoils something of a company, whatever it is.
func wild(d *draw, c *api.Company) {
	n := oneOf(d, math.MinInt, -most-1, -1, 0, 1, 2, 7, 999, 1000, 5000, api.MaxDay+1, most+1, math.MaxInt)
	name := oneOf(d, "", "cash", "salary", "base", "max", "z", "\xff", "abcdefghijklmnopq")
	switch d.below(20) {
	case 0:
		c.Today = n
	case 1:
		c.Schedule = api.Schedule{Kind: d.below(6), Anchor: n}
	case 2:
		c.Lines = append(c.Lines, c.Lines[d.below(1+len(c.Lines)):]...)
	case 3:
		c.Lines = append(c.Lines, api.Line{Kind: d.below(6), Name: name, Expr: api.Expr{Kind: d.below(15), Number: n, Name: name}})
	case 4:
		c.Tables = append(c.Tables, api.Table{Name: name, Brackets: []api.Bracket{{Rate: n}}})
	case 5:
		c.Persons = append(c.Persons, api.Person{Number: n, Name: name, Account: accountOf(5), Inputs: c.Persons[0].Inputs})
	case 6:
		c.Persons[0].Inputs = append(c.Persons[0].Inputs, input(name, row(n, 0, n)))
	case 7:
		c.Persons[1].Inputs[0].Rows = append(c.Persons[1].Inputs[0].Rows, row(0, 80, n))
	case 8:
		c.Number = n
	case 9:
		c.Period = n
	case 10:
		c.Run = brought(d.below(7))
	case 11:
		c.Run.Who[d.below(7)] = n
	case 12:
		c.Slips = append(c.Slips, made(n, oneOf(d, 1, 3, n), oneOf(d, 1, 2, n), of(name, n)))
	case 13:
		c.Slips[d.below(len(c.Slips))].Totals = []api.Amount{of(name, n)}
	case 14:
		c.Slips[d.below(len(c.Slips))].Gone = d.below(2) == 0
	case 15:
		c.Journal = append(c.Journal, posted(oneOf(d, 100, n), oneOf(d, "a", name), n))
	case 16:
		c.Slips = c.Slips[:1+d.below(len(c.Slips))]
	case 17:
		c.Persons = c.Persons[:2]
	case 18:
		c.Lines[d.below(5)].Kind = d.below(6)
	case 19:
		c.Lines[d.below(5)].Name = name
	}
}

// Whatever a company is, all calls end, and tell what Check does; what comes of one that may be may be too.
func TestAllP1Wild(t *testing.T) {
	var d draw
	right := 0
	for range 3000 {
		c := deepCopy(usual())
		for range 1 + d.below(3) {
			wild(&d, &c)
		}
		err := Check(c)
		if err != api.OK {
			refused(t, "wild", c, err)
			continue
		}
		right++
		for _, answer := range answers(c) {
			if after, some := answer.(api.Company); some && told(after) != told(api.Company{}) {
				checkIs(t, after, api.OK)
			}
		}
	}
	if right < 300 || right > 2700 {
		t.Errorf("%d of 3000 may be", right)
	}
}
