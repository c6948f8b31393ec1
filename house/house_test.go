package house

import (
	"math"
	"testing"

	"paycycle/api"
)

func openIs(t *testing.T, c api.Company, k int, want api.Errno) {
	t.Helper()
	got, err := Open(c, k)
	after := api.Company{}
	if want == api.OK {
		after = c
		after.Number, after.Period, after.Run = c.Number+1, k, api.Run{}
		checkIs(t, got, api.OK)
	}
	if err != want {
		t.Errorf("Open of run %d, period %d: %d; want %d", c.Number, k, err, want)
	}
	same(t, "Open", got, after)
}

func TestV2Open(t *testing.T) {
	none := usual()
	none.Number, none.Period, none.Run, none.Slips = 0, 0, api.Run{}, nil
	for _, k := range []int{0, 1, 2, 2399} {
		openIs(t, none, k, api.OK)
	}
	for _, k := range []int{math.MinInt, -1, 2400, 5000, math.MaxInt} {
		openIs(t, none, k, api.ErrRange)
		openIs(t, atWork(usual(), 2, 2, api.RunClosed), k, api.ErrRange) // ahead of a period that is earlier
	}
	closed := atWork(usual(), 2, 2, api.RunClosed)
	for _, k := range []int{2, 3, 2399} {
		openIs(t, closed, k, api.OK)
	}
	for _, k := range []int{0, 1} {
		openIs(t, closed, k, api.ErrLater)
	}
	for state := range api.RunClosed {
		for _, k := range []int{-1, 0, 2, 3} {
			openIs(t, atWork(usual(), 2, 2, state), k, api.ErrState)
			openIs(t, atWork(usual(), 999, 2, state), k, api.ErrState)
		}
	}
	openIs(t, atWork(usual(), 998, 2, api.RunClosed), 2, api.OK)
	for _, k := range []int{-1, 0, 2, 3} {
		openIs(t, atWork(usual(), 999, 2, api.RunClosed), k, api.ErrRange)
	}
	weekly := api.Company{Schedule: api.Schedule{Kind: api.ScheduleWeek, Anchor: api.MaxDay - 6}}
	openIs(t, weekly, 0, api.OK)
	openIs(t, weekly, 1, api.ErrRange)
}

// Example 22.
func TestV2Example(t *testing.T) {
	c, err := Open(monthly(0, ""), 2)
	if c.Number != 1 || c.Period != 2 || c.Run != (api.Run{}) || err != api.OK {
		t.Errorf("run %d, period %d, %v, %d", c.Number, c.Period, c.Run, err)
	}
}

func netIs(t *testing.T, c api.Company, s api.Slip, want int, wantErr api.Errno) {
	t.Helper()
	if got, err := Net(c, s); got != want || err != wantErr {
		t.Errorf("Net(%v) = %d, %d; want %d, %d", s, got, err, want, wantErr)
	}
}

func entryIs(t *testing.T, c api.Company, s api.Slip, want []api.Posting, wantErr api.Errno) {
	t.Helper()
	got, some, err := Entry(c, s)
	entry := api.Entry{}
	if len(want) > 0 {
		entry = api.Entry{Day: c.Today, Postings: want}
	}
	if some != (len(want) > 0) || err != wantErr {
		t.Errorf("Entry(%v) = %v, %v, %d; want %v, %d", s, got, some, err, want, wantErr)
	}
	same(t, "Entry", got, entry)
}

func to(account string, money int) api.Posting { return api.Posting{Account: account, Money: money} }

func TestV4Written(t *testing.T) {
	c := usual()
	for _, w := range []struct {
		s    api.Slip
		net  int
		want []api.Posting
	}{
		{made(1, 1, 1), 0, nil},
		{made(9, 9, 9, of("salary", 10)), 10, []api.Posting{to("salary", 10), to("cash", -10)}},
		{made(9, 9, 9, of("levy", 3), of("salary", 10)), 7, []api.Posting{to("levy", -3), to("salary", 10), to("cash", -7)}},
		{made(9, 9, 9, of("levy", 10), of("salary", 10)), 0, []api.Posting{to("levy", -10), to("salary", 10)}},
		{made(9, 9, 9, of("due", 5), of("union", -7)), 2, []api.Posting{to("due", -5), to("union", 7), to("cash", -2)}},
		{made(999, 999, 999, of("levy", 8)), -8, []api.Posting{to("levy", -8), to("cash", 8)}},
		{made(1, 1, 1, of("due", 1), of("levy", 2), of("salary", -4), of("union", 8)), -15, []api.Posting{to("due", -1), to("levy", -2), to("salary", -4), to("union", -8), to("cash", 15)}},
		{made(1, 1, 1, of("salary", most)), most, []api.Posting{to("salary", most), to("cash", -most)}},
		{made(1, 1, 1, of("levy", -most)), most, []api.Posting{to("levy", most), to("cash", -most)}},
	} {
		netIs(t, c, w.s, w.net, api.OK)
		entryIs(t, c, w.s, w.want, api.OK)
		netIs(t, c, gone(w.s), w.net, api.OK)
		entryIs(t, c, gone(w.s), nil, api.OK) // of one that does not stand nothing is posted
	}
}

func TestV4Errors(t *testing.T) {
	c := usual()
	for _, w := range []struct {
		s    api.Slip
		want api.Errno
	}{
		{api.Slip{}, api.ErrRange}, {made(1000, 1, 1), api.ErrRange}, {made(1, -1, 1), api.ErrRange}, {made(1, 1, 0, of("base", 0)), api.ErrRange},
		{made(1, 1, 1, of("max", 1)), api.ErrForm}, {made(1, 1, 1, of("base", 0)), api.ErrRange}, {made(1, 1, 1, of("base", most+1)), api.ErrRange},
		{made(1, 1, 1, of("salary", 1), of("levy", 1)), api.ErrTwice}, {made(1, 1, 1, of("x", 1), of("x", 1)), api.ErrTwice},
		{made(1, 1, 1, make([]api.Amount, 31)...), api.ErrMany},
		{made(1, 1, 1, of("base", 1)), api.ErrNone}, {made(1, 1, 1, of("cash", 1)), api.ErrNone}, {made(1, 1, 1, of("pay", 1)), api.ErrNone}, {made(1, 1, 1, of("levy", 1), of("z", 1)), api.ErrNone},
	} {
		netIs(t, c, w.s, 0, w.want)
		entryIs(t, c, w.s, nil, w.want)
		netIs(t, c, gone(w.s), 0, w.want)
		entryIs(t, c, gone(w.s), nil, w.want)
	}
}

// A net may be more than money may be; it cannot be posted.
func TestV4NetsThatAreNoMoney(t *testing.T) {
	c := usual()
	for _, w := range []struct {
		s   api.Slip
		net int
	}{{made(1, 1, 1, of("levy", -1), of("salary", most)), most + 1}, {made(1, 1, 1, of("due", most), of("union", 1)), -most - 1}, {made(1, 1, 1, of("due", -most), of("levy", -most), of("salary", most), of("union", -most)), 4 * most}} {
		netIs(t, c, w.s, w.net, api.OK)
		entryIs(t, c, w.s, nil, api.ErrRange)
		entryIs(t, c, gone(w.s), nil, api.OK)
	}
}

// Of as many lines as there may be all may be posted.
func TestV4TheLongestEntry(t *testing.T) {
	c := big()
	s := made(1, 980, 1)
	want := []api.Posting{}
	for i := range api.MaxElements {
		name := letters(100 - api.MaxElements + 1 + i)
		s.Totals = append(s.Totals, of(name, 1+i))
		want = append(want, to(name, -1-i))
	}
	want[api.MaxElements-1].Money = api.MaxElements
	want = append(want, to("cash", 171-19))
	netIs(t, c, s, 19-171, api.OK)
	entryIs(t, c, s, want, api.OK)
}

func voidIs(t *testing.T, c api.Company, number int, cascade bool, want api.Company, wantGone []int, wantErr api.Errno) {
	t.Helper()
	got, numbers, err := Void(c, number, cascade)
	if told(numbers) != told(wantGone) || err != wantErr {
		t.Errorf("Void(%d, %v) = %v, %d; want %v, %d", number, cascade, numbers, err, wantGone, wantErr)
	}
	same(t, "Void", got, want)
}

func TestV6VoidWritten(t *testing.T) {
	c := usual() // slips 1 and 5 of person 3, 4 (void) and 6 (of nothing) of person 7
	none := api.Company{}
	voidIs(t, c, 2, true, none, nil, api.ErrNone)
	voidIs(t, c, -1, false, none, nil, api.ErrNone)
	voidIs(t, c, 4, true, none, nil, api.ErrState)
	voidIs(t, c, 1, false, none, nil, api.ErrLater)
	five := deepCopy(c)
	five.Slips[2].Gone = true
	five.Journal = append(five.Journal, api.Entry{Day: 100, Postings: []api.Posting{to("due", -2), to("cash", 2)}})
	voidIs(t, c, 5, false, five, []int{5}, api.OK)
	voidIs(t, c, 5, true, five, []int{5}, api.OK)
	both := deepCopy(five)
	both.Slips[0].Gone = true
	both.Journal = append(both.Journal, api.Entry{Day: 100, Postings: []api.Posting{to("levy", 5), to("salary", -20), to("cash", 15)}})
	voidIs(t, c, 1, true, both, []int{5, 1}, api.OK)
	voidIs(t, five, 1, false, both, []int{1}, api.OK)
	six := deepCopy(c)
	six.Slips[3].Gone = true // nothing is posted of a slip without totals
	voidIs(t, c, 6, false, six, []int{6}, api.OK)
	later := deepCopy(c)
	later.Today = 200
	after := deepCopy(five)
	after.Today, after.Journal[2].Day = 200, 200
	voidIs(t, later, 5, false, after, []int{5}, api.OK)
}

func TestV6VoidErrors(t *testing.T) {
	none := api.Company{}
	c := usual()
	c.Slips[2].Totals = []api.Amount{of("due", -most), of("levy", -1)}
	voidIs(t, c, 5, false, none, nil, api.ErrRange) // the entry cannot be posted
	voidIs(t, c, 1, true, none, nil, api.ErrRange)
	voidIs(t, c, 1, false, none, nil, api.ErrLater)
	full := usual()
	for len(full.Journal) < api.MaxEntries {
		full.Journal = append(full.Journal, posted(100, "rent", 1))
	}
	voidIs(t, full, 5, false, none, nil, api.ErrMany)
	voidIs(t, full, 4, false, none, nil, api.ErrState)
	six := deepCopy(full)
	six.Slips[3].Gone = true
	voidIs(t, full, 6, false, six, []int{6}, api.OK) // nothing is posted
	nearly := deepCopy(full)
	nearly.Journal = nearly.Journal[:99]
	voidIs(t, nearly, 1, true, none, nil, api.ErrMany)
	if _, numbers, err := Void(nearly, 5, true); len(numbers) != 1 || err != api.OK {
		t.Errorf("the last entry: %v, %d", numbers, err)
	}
	// an entry that cannot be goes ahead of a journal that is full, though it is that of a later one
	full.Slips[0].Totals = []api.Amount{of("due", -most), of("levy", -1)}
	voidIs(t, full, 1, true, none, nil, api.ErrRange)
}

func changeIs(t *testing.T, c api.Company, number int, name string, r api.Row, want api.Company, wantErr api.Errno) {
	t.Helper()
	got, err := Change(c, number, name, r)
	if err != wantErr {
		t.Errorf("Change(%d, %q, %v) = %d; want %d", number, name, r, err, wantErr)
	}
	same(t, "Change", got, want)
}

func TestV6Change(t *testing.T) {
	c := usual()
	none := api.Company{}
	for _, r := range []api.Row{row(31, 100, 9999), row(0, 100, -most), row(api.MaxDay, 100, most), {From: 5, Seen: 100, Gone: true}} {
		for at, p := range c.Persons {
			for i, in := range p.Inputs {
				want := deepCopy(c)
				want.Persons[at].Inputs[i].Rows = append(want.Persons[at].Inputs[i].Rows, r)
				changeIs(t, c, p.Number, in.Name, r, want, api.OK)
				checkIs(t, want, api.OK)
			}
		}
	}
	for _, r := range []api.Row{row(31, 100, 9999), row(31, 99, 9999), row(-1, 100, 0), row(-1, 101, most+1)} {
		for _, number := range []int{math.MinInt, -1, 0, 2, 4, 999, math.MaxInt} {
			changeIs(t, c, number, "pay", r, none, api.ErrNone)
		}
		for _, name := range []string{"", "none", "salary", "t", "Pay", "max"} {
			changeIs(t, c, 1, name, r, none, api.ErrNone)
		}
		changeIs(t, c, 3, "bonus", r, none, api.ErrNone)
	}
	for _, seen := range []int{math.MinInt, -1, 0, 99, 101, api.MaxDay + 1} {
		changeIs(t, c, 1, "pay", row(0, seen, 5), none, api.ErrState)
		changeIs(t, c, 1, "pay", row(-1, seen, 5), none, api.ErrState)
	}
	for _, r := range []api.Row{row(-1, 100, 0), row(api.MaxDay+1, 100, 0), row(0, 100, most+1), {Seen: 100, Value: 1, Gone: true}} {
		changeIs(t, c, 1, "pay", r, none, api.ErrRange)
	}
	full := deepCopy(c)
	full.Persons[1].Inputs[0].Rows = make([]api.Row, api.MaxRows)
	changeIs(t, full, 3, "pay", row(0, 100, 1), none, api.ErrMany)
	changeIs(t, full, 3, "pay", row(-1, 100, 1), none, api.ErrMany)
	ahead := deepCopy(c)
	ahead.Today, ahead.Journal = 49, nil // something is seen only at day 50
	changeIs(t, ahead, 1, "pay", row(0, 49, 1), none, api.ErrState)
	changeIs(t, ahead, 1, "pay", row(-1, 49, 1), none, api.ErrRange)
}

// What is reckoned of a change is what is known at the day on which it was made.
func TestV6ChangeIsReckoned(t *testing.T) {
	c := atWork(monthly(70, "earn wage = pay;", person(1, "anna", input("pay", row(0, 0, 500)))), 1, 2, 0)
	c, err := Change(c, 1, "pay", row(60, 70, 600))
	if err != api.OK {
		t.Fatal(err)
	}
	reckonIs(t, c, []api.Slip{made(1, 1, 1, of("wage", 600))}, api.OK)
	c.Today = 69
	reckonIs(t, c, []api.Slip{made(1, 1, 1, of("wage", 500))}, api.OK)
}
