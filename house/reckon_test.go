package house

import (
	"slices"
	"testing"

	"paycycle/api"
)

func reckonIs(t *testing.T, c api.Company, want []api.Slip, wantErr api.Errno) {
	t.Helper()
	got, err := Reckon(c)
	if err != wantErr {
		t.Errorf("Reckon of run %d, period %d: %d; want %d", c.Number, c.Period, err, wantErr)
	}
	same(t, "Reckon", got, want)
}

func TestV3Written(t *testing.T) {
	c := usual() // period 2 begins at day 60, as known at day 100; persons' pay is then 0, 3000, 60000; the last slip is 6
	reckonIs(t, c, []api.Slip{
		made(7, 3, 2, of("levy", 600), of("salary", 3000), of("union", 2400)), // nothing is left for the last claim
		made(8, 7, 2, of("due", 5100), of("levy", 12000), of("salary", 60000), of("union", 5000)),
	}, api.OK)
	c.Today, c.Journal, c.Slips = 49, nil, nil
	reckonIs(t, c, []api.Slip{
		made(1, 1, 2, of("levy", 400), of("salary", 2000), of("union", 1600)),
		made(2, 3, 2, of("levy", 1200), of("salary", 6000), of("union", 4800)),
		made(3, 7, 2, of("due", 500), of("levy", 2800), of("salary", 14000), of("union", 5000)),
	}, api.OK)
}

func TestV3Claims(t *testing.T) {
	for _, w := range []struct {
		text string
		want []api.Amount
	}{
		{"", nil}, {"let a = 5;", nil}, {"earn a = 0;", nil}, {"take a = 5; tax b = 7;", nil}, {"take a = -5;", nil},
		{"take b = 3; earn z = 10; tax a = 4;", []api.Amount{of("a", 400), of("b", 300), of("z", 1000)}},
		{"take b = 8; earn z = 10; tax a = 4; take c = 1;", []api.Amount{of("a", 200), of("b", 800), of("z", 1000)}},
		{"earn z = 10; take b = -8; tax a = 4;", []api.Amount{of("a", 400), of("z", 1000)}},
		{"earn z = 10; tax a = 11; take b = 0;", []api.Amount{of("a", 1000), of("z", 1000)}},
		{"earn y = 10; earn z = -4; tax a = 9;", []api.Amount{of("a", 600), of("y", 1000), of("z", -400)}},
		{"earn y = 10; earn z = -10; tax a = 9;", []api.Amount{of("y", 1000), of("z", -1000)}},
		{"earn y = 1; let x = y + z; earn z = 2;", nil},
		{"earn z = 2; earn y = 1; let x = y + z; tax a = x * 2;", []api.Amount{of("a", 300), of("y", 100), of("z", 200)}},
		{"earn z = 10; take a = 2; take b = year a; take c = year z;", []api.Amount{of("a", 200), of("b", 400), of("c", 400), of("z", 1000)}}, // the year ahead has two periods; what was wanted in it counts, not what was got
		{"earn z = 1; take a = 5; take b = year a;", []api.Amount{of("a", 100), of("z", 100)}},
	} {
		c := atWork(monthly(0, w.text, person(5, "anna")), 4, 2, 3)
		if Check(c) != api.OK { // a name that means nothing yet
			reckonIs(t, c, nil, api.ErrNone)
			continue
		}
		var want []api.Slip
		if len(w.want) > 0 {
			want = []api.Slip{made(1, 5, 4, w.want...)}
		}
		reckonIs(t, c, want, api.OK)
	}
}

// Years begin with the first period that begins in them, whatever was ahead of it.
func TestV3Years(t *testing.T) {
	for _, w := range []struct {
		schedule api.Schedule
		k, ahead int
	}{
		{api.Schedule{Kind: api.ScheduleMonth}, 0, 0}, {api.Schedule{Kind: api.ScheduleMonth}, 11, 11}, {api.Schedule{Kind: api.ScheduleMonth}, 12, 0}, {api.Schedule{Kind: api.ScheduleMonth}, 30, 6}, {api.Schedule{Kind: api.ScheduleMonth}, 2399, 11},
		{api.Schedule{Kind: api.ScheduleMonth, Anchor: 200}, 0, 0}, {api.Schedule{Kind: api.ScheduleMonth, Anchor: 200}, 5, 5}, {api.Schedule{Kind: api.ScheduleMonth, Anchor: 200}, 6, 0}, {api.Schedule{Kind: api.ScheduleMonth, Anchor: 200}, 7, 1},
		{api.Schedule{Kind: api.ScheduleHalf}, 23, 23}, {api.Schedule{Kind: api.ScheduleHalf}, 24, 0}, {api.Schedule{Kind: api.ScheduleHalf, Anchor: 20}, 22, 22}, {api.Schedule{Kind: api.ScheduleHalf, Anchor: 20}, 23, 0},
		{api.Schedule{Kind: api.ScheduleWeek}, 52, 52}, {api.Schedule{Kind: api.ScheduleWeek}, 53, 0}, {api.Schedule{Kind: api.ScheduleWeek, Anchor: 365}, 0, 0}, {api.Schedule{Kind: api.ScheduleWeek, Anchor: 365}, 1, 0}, {api.Schedule{Kind: api.ScheduleWeek, Anchor: 365}, 2, 1}, {api.Schedule{Kind: api.ScheduleWeek}, 4999, 42},
		{api.Schedule{Kind: api.ScheduleTwo, Anchor: 2}, 25, 25}, {api.Schedule{Kind: api.ScheduleTwo, Anchor: 2}, 26, 0}, {api.Schedule{Kind: api.ScheduleTwo, Anchor: 1}, 26, 26}, {api.Schedule{Kind: api.ScheduleTwo, Anchor: 1}, 27, 0},
	} {
		c := api.Company{Schedule: w.schedule, Lines: parsed("let one = 1; earn z = year one + 5;"), Persons: []api.Person{person(1, "a")}, Number: 1, Period: w.k}
		want, err := sayOfReckon(c)
		same(t, "the slow way", want, []api.Slip{made(1, 1, 1, of("z", 100*w.ahead+500))})
		reckonIs(t, c, want, err)
	}
}

func TestV3States(t *testing.T) {
	for state := range 7 {
		c := atWork(usual(), 2, 2, state)
		want, err := sayOfReckon(c)
		reckonIs(t, c, want, err)
		if (state >= api.RunReleased) != (err == api.ErrState) {
			t.Errorf("state %d: %d", state, err)
		}
	}
	c := usual()
	c.Slips = nil
	reckonIs(t, atWork(c, 0, 0, 0), nil, api.ErrState)
	broken := monthly(0, "earn a = 10000000000 * 2;", person(1, "a"))
	reckonIs(t, broken, nil, api.ErrState) // ahead of what is no money
	reckonIs(t, atWork(broken, 1, 0, api.RunClosed), nil, api.ErrState)
	reckonIs(t, atWork(broken, 1, 0, api.RunApproved), nil, api.ErrRange)
}

func TestV3Gross(t *testing.T) {
	text := "earn a = pay; earn b = bonus; take c = 1;"
	with := func(pay, bonus int) api.Company {
		return atWork(monthly(0, text, person(1, "a", input("bonus", row(0, 0, bonus)), input("pay", row(0, 0, pay)))), 1, 0, 0)
	}
	for _, w := range [][2]int{{-1, 0}, {0, -1}, {5, -6}, {-most, most - 1}, {most, 1}, {1, most}, {most, most}, {-most, -most}} {
		reckonIs(t, with(w[0], w[1]), nil, api.ErrRange)
	}
	reckonIs(t, with(most, 0), []api.Slip{made(1, 1, 1, of("a", most), of("c", 100))}, api.OK)
	reckonIs(t, with(-5, 6), []api.Slip{made(1, 1, 1, of("a", -5), of("b", 6), of("c", 1))}, api.OK)
	reckonIs(t, with(-5, 5), []api.Slip{made(1, 1, 1, of("a", -5), of("b", 5))}, api.OK)
	reckonIs(t, with(0, 0), nil, api.OK)
	c := with(1, 1)
	c.Persons = append(c.Persons, person(2, "b", input("bonus"), input("pay", row(0, 0, -1))))
	reckonIs(t, c, nil, api.ErrRange)
	// the year's sums are too much from the third period on
	c = with(most, 0)
	reckonIs(t, atWork(c, 1, 1, 0), []api.Slip{made(1, 1, 1, of("a", most), of("c", 100))}, api.OK)
	reckonIs(t, atWork(c, 1, 2, 0), nil, api.ErrRange)
	reckonIs(t, atWork(c, 1, 12, 0), []api.Slip{made(1, 1, 1, of("a", most), of("c", 100))}, api.OK)
}

// crowd has so many slips, the last of them with a number, and persons, of whom some earn nothing.
func crowd(slips, last, persons, poor int) api.Company {
	c := atWork(monthly(0, "earn a = pay;"), 1, 0, 0)
	for i := range persons {
		n := 7
		if i < poor {
			n = 0
		}
		c.Persons = append(c.Persons, person(1+i, "a", input("pay", row(0, 0, n))))
	}
	for i := range slips {
		c.Slips = append(c.Slips, made(last-slips+1+i, 1, 1))
	}
	return c
}

func TestV3HowManySlips(t *testing.T) {
	for _, w := range []struct {
		slips, last, persons, poor int
		want                       api.Errno
	}{
		{180, 500, 20, 0, api.OK}, {181, 500, 20, 0, api.ErrMany}, {181, 500, 20, 1, api.OK}, {200, 500, 1, 0, api.ErrMany}, {200, 500, 20, 20, api.OK}, {199, 500, 1, 0, api.OK},
		{1, 979, 20, 0, api.OK}, {1, 980, 20, 0, api.ErrMany}, {1, 980, 20, 1, api.OK}, {1, 999, 20, 20, api.OK}, {1, 999, 20, 19, api.ErrMany}, {200, 999, 1, 0, api.ErrMany}, {200, 999, 0, 0, api.ErrNone},
	} {
		c := crowd(w.slips, w.last, w.persons, w.poor)
		var want []api.Slip
		for i := w.poor; i < w.persons && w.want == api.OK; i++ {
			want = append(want, made(w.last+1+i-w.poor, 1+i, 1, of("a", 7)))
		}
		reckonIs(t, c, want, w.want)
	}
	// what somebody comes to goes ahead of how many slips there are
	c := crowd(200, 500, 2, 0)
	c.Persons[1].Inputs[0].Rows[0].Value = -1
	reckonIs(t, c, nil, api.ErrRange)
}

func TestV3Drawn(t *testing.T) {
	var d draw
	said := map[api.Errno]int{}
	for range 1500 {
		c := atWork(drawCompany(&d), 1+d.below(5), d.below(40), d.below(7))
		if Check(c) != api.OK {
			t.Fatalf("%s: %d", told(c), Check(c))
		}
		want, err := sayOfReckon(c)
		reckonIs(t, c, want, err)
		said[err]++
	}
	for _, err := range []api.Errno{api.OK, api.ErrState, api.ErrRange} {
		if said[err] < 50 {
			t.Errorf("%d was drawn %d times", err, said[err])
		}
	}
}

// Persons are reckoned side by side, and come in their order, each time.
func TestV3InThePersonsOrder(t *testing.T) {
	c := crowd(3, 9, 20, 0)
	for i := range c.Persons {
		c.Persons[i].Inputs[0].Rows[0].Value = 1000 - i
	}
	want, err := sayOfReckon(c)
	for range 100 {
		reckonIs(t, c, want, err)
	}
	if !slices.IsSortedFunc(want, func(a, b api.Slip) int { return a.Person - b.Person }) || len(want) != 20 {
		t.Errorf("the slow way: %v", want)
	}
}
