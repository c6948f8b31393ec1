package house

import (
	"fmt"
	"math"
	"slices"
	"strings"
	"testing"

	"paycycle/api"
)

func TestV1Right(t *testing.T) {
	schedule := api.Schedule{Kind: api.ScheduleMonth}
	for i, c := range []api.Company{
		usual(), big(), {Schedule: schedule}, {Today: api.MaxDay, Schedule: schedule, Number: 999, Period: 2399, Run: brought(api.RunClosed)},
		{Schedule: api.Schedule{Kind: api.ScheduleWeek, Anchor: 5, Lag: 60}, Number: 1, Period: 4999},
		{Schedule: schedule, Lines: parsed("earn a = b; earn a = table t of c;")}, // names mean something to persons alone
		{Schedule: schedule, Lines: parsed("earn cas = 1; let cashs = 2; take casha = year cas;"), Persons: []api.Person{person(999, "z", input("cash"))}},
		{Schedule: schedule, Tables: make([]api.Table, 40)},
		monthly(0, "earn a = 1;", person(1, "a"), person(2, "a")),
		monthly(0, "earn a = 1;", person(1, strings.Repeat("z", 12)), person(999, strings.Repeat("a", 12))),
	} {
		if err := Check(c); err != api.OK {
			t.Errorf("company %d: %d", i, err)
		}
	}
}

// flaw that the usual company may have, and what Check says of it.
type flaw struct {
	what  string
	err   api.Errno
	spoil func(c *api.Company)
}

// flaws in the order in which V1 names them.
func flaws() []flaw {
	return []flaw{
		{"today", api.ErrRange, func(c *api.Company) { c.Today = -1 }},
		{"lines", api.ErrMany, func(c *api.Company) { c.Lines = append(c.Lines, parsed(strings.Repeat("let x = 1;", 15))...) }},
		{"persons", api.ErrMany, func(c *api.Company) { c.Persons = append(c.Persons, make([]api.Person, 18)...) }},
		{"line 0 kind", api.ErrKind, func(c *api.Company) { c.Lines[0].Kind = 5 }},
		{"line 1 name", api.ErrForm, func(c *api.Company) { c.Lines[1].Name = "max" }},
		{"line 2 expression", api.ErrRange, func(c *api.Company) { c.Lines[2].Expr.Number = api.MaxRate + 1 }},
		{"line 3 cash", api.ErrState, func(c *api.Company) { c.Lines[3].Name = "cash" }},
		{"person 0 number", api.ErrRange, func(c *api.Company) { c.Persons[0].Number = 0 }},
		{"person 0 account", api.ErrForm, func(c *api.Company) { c.Persons[0].Account = "123456789091" }},
		{"schedule", api.ErrKind, func(c *api.Company) { c.Schedule.Kind = 0 }},
		{"person 0 rows", api.ErrState, func(c *api.Company) { c.Persons[0].Inputs[1].Rows[0].Seen = 60 }},
		{"person 0 inputs", api.ErrTwice, func(c *api.Company) { c.Persons[0].Inputs[0].Name = "pay" }},
		{"person 1 number", api.ErrRange, func(c *api.Company) { c.Persons[1].Number = 1000 }},
		{"person 1 name", api.ErrForm, func(c *api.Company) { c.Persons[1].Name = "" }},
		{"person 1 inputs", api.ErrNone, func(c *api.Company) { c.Persons[1].Inputs = nil }},
		{"person 2 number", api.ErrTwice, func(c *api.Company) { c.Persons[2].Number = 2 }},
		{"number", api.ErrRange, func(c *api.Company) { c.Number = 1000 }},
		{"period", api.ErrRange, func(c *api.Company) { c.Period = 2400 }},
		{"run", api.ErrKind, func(c *api.Company) { c.Run.State = 7 }},
		{"number and state", api.ErrState, func(c *api.Company) { c.Number = 0 }},
		{"slip 0", api.ErrForm, func(c *api.Company) { c.Slips[0].Totals[0].Name = "a b" }},
		{"slip 1 person", api.ErrNone, func(c *api.Company) { c.Slips[1].Person = 2 }},
		{"slip 2 totals", api.ErrNone, func(c *api.Company) { c.Slips[2].Totals[0].Name = "base" }},
		{"slip 0 run", api.ErrRange, func(c *api.Company) { c.Slips[0].Run = 999 }},
		{"entry 0", api.ErrMany, func(c *api.Company) { c.Journal[0].Postings = nil }},
		{"entry 1", api.ErrLater, func(c *api.Company) { c.Journal[1].Day = 101 }},
	}
}

func TestV1EachFlaw(t *testing.T) {
	for _, f := range flaws() {
		c := deepCopy(usual())
		f.spoil(&c)
		refused(t, f.what, c, f.err)
	}
}

// Of two flaws the one is told that V1 names first.
func TestV1TwoFlaws(t *testing.T) {
	all := flaws()
	for i, first := range all {
		for _, second := range all[i+1:] {
			if first.what == "number" && second.what == "number and state" {
				continue // one number cannot have both
			}
			for _, both := range [][]flaw{{first, second}, {second, first}} {
				c := deepCopy(usual())
				both[0].spoil(&c)
				both[1].spoil(&c)
				if got := Check(c); got != first.err {
					t.Errorf("%s and %s: %d; want %d", first.what, second.what, got, first.err)
				}
			}
		}
	}
}

func TestV1AllFlawsFromOneOn(t *testing.T) {
	all := flaws()
	for i := range all {
		c := deepCopy(usual())
		for _, f := range slices.Backward(all[i:]) {
			f.spoil(&c)
		}
		refused(t, fmt.Sprint("from ", all[i].what, " on"), c, all[i].err)
	}
}

func TestV1Numbers(t *testing.T) {
	for _, n := range []int{math.MinInt, -1, api.MaxDay + 1, math.MaxInt} {
		c := usual()
		c.Today = n
		refused(t, "today", c, api.ErrRange)
	}
	for _, n := range []int{math.MinInt, -1, 0, 1000, math.MaxInt} {
		checkIs(t, monthly(0, "", api.Person{Number: n, Name: "a", Account: accountOf(1)}), api.ErrRange)
		if n != 0 {
			refused(t, "number", api.Company{Schedule: api.Schedule{Kind: api.ScheduleMonth}, Number: n}, api.ErrRange)
		}
	}
	for _, n := range []int{1, 999} {
		checkIs(t, monthly(0, "", api.Person{Number: n, Name: "a", Account: accountOf(1)}), api.OK)
		checkIs(t, api.Company{Schedule: api.Schedule{Kind: api.ScheduleMonth}, Number: n}, api.OK)
	}
	for _, numbers := range [][3]int{{1, 1, 2}, {1, 2, 2}, {2, 1, 3}, {1, 3, 2}, {999, 998, 997}} {
		checkIs(t, monthly(0, "", person(numbers[0], "a"), person(numbers[1], "b"), person(numbers[2], "c")), api.ErrTwice)
	}
}

func TestV1Names(t *testing.T) {
	for _, name := range []string{"", "Anna", "anna ", "an na", "ann1", "anna.", "\xff", "é", "abcdefghijklm", strings.Repeat("a", 100000)} {
		checkIs(t, monthly(0, "", api.Person{Number: 1, Name: name, Account: accountOf(1)}), api.ErrForm)
	}
	for _, name := range []string{"a", "earn", "sum", "cash", "abcdefghijkl"} {
		checkIs(t, monthly(0, "", person(1, name)), api.OK)
	}
	for _, account := range []string{"", "1", "123456789091", "123456789093", "12345678909", "1234567890920", "12345678909x", " 23456789092", "000000000001", "000000000098"[:11] + "\xff"} {
		checkIs(t, monthly(0, "", api.Person{Number: 1, Name: "anna", Account: account}), api.ErrForm)
	}
	checkIs(t, monthly(0, "", api.Person{Number: 1, Name: "anna", Account: "123456789092"}), api.OK)
}

func TestV1Lines(t *testing.T) {
	for _, kind := range []string{"earn", "take", "tax", "let"} {
		refused(t, kind, monthly(0, kind+" cash = 1;"), api.ErrState)
		refused(t, kind, monthly(0, "earn a = 1; "+kind+" cash = b;", person(0, "")), api.ErrState)
	}
	for n := 18; n <= 41; n++ {
		c := monthly(0, "")
		for i := range n {
			c.Lines = append(c.Lines, api.Line{Kind: api.LineLet, Name: letters(i), Expr: api.Expr{Kind: api.ExprNumber}})
		}
		want := api.OK
		if n > api.MaxElements {
			want = api.ErrMany
		}
		checkIs(t, c, want)
	}
	kids := make([]api.Expr, 1)
	kids[0] = api.Expr{Kind: api.ExprMinus, Kids: kids}
	refused(t, "an expression that holds itself", api.Company{Schedule: api.Schedule{Kind: api.ScheduleMonth}, Lines: []api.Line{{Kind: api.LineLet, Name: "a", Expr: kids[0]}}}, api.ErrMany)
	checkIs(t, monthly(0, "earn a = b;", person(1, "a")), api.ErrNone)
	checkIs(t, monthly(0, "earn a = 1; take a = 2;", person(1, "a")), api.ErrTwice)
	checkIs(t, monthly(0, "earn a = 1;", person(1, "a", input("a"))), api.ErrTwice)
	checkIs(t, monthly(0, "earn a = b;", person(1, "a", input("b")), person(2, "b")), api.ErrNone)
	c := monthly(0, "earn a = 1;", person(1, "a"))
	c.Tables = make([]api.Table, 31)
	checkIs(t, c, api.ErrMany)
}

// Without persons nobody but At asks for the schedule.
func TestV1Schedules(t *testing.T) {
	for _, persons := range [][]api.Person{nil, {person(1, "a")}} {
		checkIs(t, api.Company{Persons: persons}, api.ErrKind)
		checkIs(t, api.Company{Persons: persons, Number: 1, Schedule: api.Schedule{Kind: 5}, Period: -1}, api.ErrKind)
		checkIs(t, api.Company{Persons: persons, Schedule: api.Schedule{Kind: 1, Anchor: -1}, Run: api.Run{State: 9}}, api.ErrRange)
		checkIs(t, api.Company{Persons: persons, Schedule: api.Schedule{Kind: 1, Lag: 61}}, api.ErrRange)
		checkIs(t, api.Company{Persons: persons, Schedule: api.Schedule{Kind: 1, Anchor: api.MaxDay}}, api.ErrRange) // it has no period at all
	}
	checkIs(t, api.Company{Number: 1000}, api.ErrRange)
	checkIs(t, api.Company{Persons: []api.Person{person(1, "a")}, Number: 1000}, api.ErrKind)
	for _, k := range []int{math.MinInt, -1, 2400, 5000, math.MaxInt} {
		refused(t, "period", atWork(monthly(0, ""), 1, k, 0), api.ErrRange)
	}
}

func TestV1Runs(t *testing.T) {
	c := monthly(0, "")
	for state := range 7 {
		want := api.ErrState
		if state == api.RunOpen {
			want = api.OK
		}
		checkIs(t, atWork(c, 0, 0, state), want)
		checkIs(t, atWork(c, 1, 0, state), api.OK)
	}
	refused(t, "period", atWork(c, 0, 1, 0), api.ErrState)
	for _, r := range []struct {
		run  api.Run
		want api.Errno
	}{{api.Run{State: -1}, api.ErrKind}, {api.Run{State: 1}, api.ErrRange}, {api.Run{Who: [7]int{1}}, api.ErrState}, {api.Run{Who: [7]int{6: 1}}, api.ErrState}, {api.Run{State: 2, Who: [7]int{1: 5, 2: 5}}, api.ErrRight}} {
		for _, number := range []int{0, 1} {
			c := atWork(c, number, number, 0)
			c.Run = r.run
			refused(t, "run", c, r.want)
		}
	}
}

func TestV1Slips(t *testing.T) {
	with := func(l ...api.Slip) api.Company {
		c := atWork(monthly(5, "earn wage = 1; let base = 2; take due = 3; tax levy = 4;", person(2, "a"), person(4, "b")), 3, 0, 0)
		c.Slips = l
		return c
	}
	all := []api.Amount{of("due", 1), of("levy", -2), of("wage", most)}
	for _, l := range [][]api.Slip{nil, {made(1, 2, 3, all...)}, {made(1, 4, 1), gone(made(999, 4, 1, all[1:]...))}} {
		checkIs(t, with(l...), api.OK)
	}
	for _, number := range []int{1, 3, 5, 999} {
		checkIs(t, with(made(1, number, 1)), api.ErrNone)
		checkIs(t, with(gone(made(1, number, 9))), api.ErrNone)
	}
	for _, name := range []string{"base", "a", "cash", "sum"} {
		checkIs(t, with(made(1, 2, 1, of(name, 1))), api.ErrNone)
		checkIs(t, with(made(1, 2, 9), gone(made(2, 2, 1, of(name, 1)))), api.ErrNone) // ahead of a run of another one
	}
	checkIs(t, with(made(1, 2, 3), made(2, 2, 4)), api.ErrRange)
	checkIs(t, with(gone(made(1, 2, 4))), api.ErrRange)
	checkIs(t, with(made(1, 2, 4), made(1, 3, 1)), api.ErrState)
	checkIs(t, with(make([]api.Slip, 201)...), api.ErrMany)
	// a name of two lines, one of which is no let, is that of a line; without persons nobody asks whether there are two
	c := monthly(5, "let a = 1; tax a = 1;")
	if n, err := Net(c, made(1, 1, 1, of("a", 5))); n != -5 || err != api.OK {
		t.Errorf("of a name of two lines: %d, %d", n, err)
	}
}

func TestV1Journals(t *testing.T) {
	with := func(l ...api.Entry) api.Company {
		c := monthly(50, "")
		c.Journal = l
		return c
	}
	checkIs(t, with(posted(0, "cash", 1), posted(50, "a", 1)), api.OK)
	checkIs(t, with(posted(51, "a", 1)), api.ErrLater)
	checkIs(t, with(posted(51, "a", 1), posted(50, "a", 1)), api.ErrState)
	checkIs(t, with(posted(51, "a", 0)), api.ErrRange)
	checkIs(t, with(posted(51, "let", 1)), api.ErrForm)
	checkIs(t, with(make([]api.Entry, 101)...), api.ErrMany)
}
