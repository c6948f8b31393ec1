package house

import (
	"math"
	"testing"

	"paycycle/api"
	"paycycle/bank"
	"paycycle/ledger"
	"paycycle/run"
	"paycycle/slip"
)

// sayOfAct is what V5 asks of Act, of a company that may be.
func sayOfAct(c api.Company, a api.Act) (api.Company, string, api.Errno) {
	if c.Number == 0 {
		return api.Company{}, "", api.ErrState
	}
	next, err := run.Step(c.Run, a)
	if err != api.OK {
		return api.Company{}, "", err
	}
	after := deepCopy(c)
	after.Run = next
	if next.State != api.RunReleased {
		return after, "", api.OK
	}
	slips, err := sayOfReckon(c)
	if err != api.OK {
		return api.Company{}, "", err
	}
	var l []api.Payment
	for _, s := range slips {
		after.Slips = append(after.Slips, s)
		after.Journal = append(after.Journal, sayOfEntry(c, s))
		for _, p := range c.Persons {
			if net := sayOfNet(c, s); p.Number == s.Person && net > 0 {
				l = append(l, api.Payment{Account: p.Account, Name: p.Name, Money: net, Ref: s.Number})
			}
		}
	}
	if len(after.Journal) > 100 {
		return api.Company{}, "", api.ErrMany
	}
	file, err := bank.Print(c.Today, l)
	return after, file, err
}

func actIs(t *testing.T, c api.Company, a api.Act) (api.Company, string, api.Errno) {
	t.Helper()
	want, wantFile, wantErr := sayOfAct(c, a)
	got, file, err := Act(c, a)
	if file != wantFile || err != wantErr {
		t.Errorf("Act(%v) = %q, %d; want %q, %d", a, file, err, wantFile, wantErr)
	}
	same(t, "Act", got, want)
	if err == api.OK {
		checkIs(t, got, api.OK)
	}
	return got, file, err
}

func TestV5EachAction(t *testing.T) {
	for state := range 7 {
		for _, number := range []int{2, 999} {
			c := atWork(usual(), number, 2, state)
			for _, action := range []int{math.MinInt, -1, 0, 1, 2, 3, 4, 5, 6, 7, 8, math.MaxInt} {
				for _, who := range []int{-1, 0, 1, 2, 3, 4, 999, 1000} {
					actIs(t, c, api.Act{Action: action, Who: who})
				}
			}
		}
	}
}

func TestV5NoRun(t *testing.T) {
	c := monthly(0, "")
	for _, a := range []api.Act{{Action: 1, Who: 1}, {Action: 9, Who: 1}, {Action: 1}, {}} {
		after, file, err := Act(c, a)
		if file != "" || err != api.ErrState {
			t.Errorf("Act(%v) = %q, %d", a, file, err)
		}
		same(t, "Act", after, api.Company{})
	}
}

func TestV5Written(t *testing.T) {
	c := atWork(usual(), 2, 2, api.RunFunded)
	after, file, err := Act(c, api.Act{Action: api.RunReleased, Who: 9})
	want := deepCopy(c)
	want.Run = brought(api.RunReleased)
	want.Run.Who[api.RunReleased] = 9
	want.Slips = append(want.Slips,
		made(7, 3, 2, of("levy", 600), of("salary", 3000), of("union", 2400)),
		made(8, 7, 2, of("due", 5100), of("levy", 12000), of("salary", 60000), of("union", 5000)))
	want.Journal = append(want.Journal,
		api.Entry{Day: 100, Postings: []api.Posting{to("levy", -600), to("salary", 3000), to("union", -2400)}},
		api.Entry{Day: 100, Postings: []api.Posting{to("due", -5100), to("levy", -12000), to("salary", 60000), to("union", -5000), to("cash", -37900)}})
	same(t, "released", after, want)
	// who has no net is not paid; 100 and 37900 + 8 + 777 are 38785
	if wantFile := "F00100001000000000037900\nP0000000007770000000037900000008cleo........\nE0000038785\n"; file != wantFile || err != api.OK {
		t.Errorf("the file is %q, %d; want %q", file, err, wantFile)
	}
}

// A run that pays nobody has a file all the same.
func TestV5NobodyIsPaid(t *testing.T) {
	for _, text := range []string{"", "let a = 1;", "earn a = 0;", "earn a = 5; take b = 5;"} {
		c := atWork(monthly(3, text, person(1, "anna")), 1, 0, api.RunFunded)
		after, file, err := actIs(t, c, api.Act{Action: api.RunReleased, Who: 4})
		if file != "F00003000000000000000000\nE0000000003\n" || err != api.OK || after.Run.State != api.RunReleased {
			t.Errorf("%q: %q, %d", text, file, err)
		}
	}
}

func TestV5Errors(t *testing.T) {
	release := api.Act{Action: api.RunReleased, Who: 4}
	for _, w := range []struct {
		c    api.Company
		want api.Errno
	}{
		{monthly(0, "earn a = -1;", person(1, "a")), api.ErrRange},
		{monthly(0, "earn a = 10000000000 + 1;", person(1, "a")), api.ErrRange},
		{crowd(181, 500, 20, 0), api.ErrMany},
		{crowd(181, 500, 20, 1), api.OK},
		{crowd(1, 999, 1, 0), api.ErrMany},
	} {
		c := atWork(w.c, 1, 0, api.RunFunded)
		if _, _, err := actIs(t, c, release); err != w.want {
			t.Errorf("%d; want %d", err, w.want)
		}
		c = atWork(w.c, 1, 0, api.RunApproved) // only a release reckons
		if _, _, err := actIs(t, c, api.Act{Action: api.RunFunded, Who: 4}); err != api.OK {
			t.Errorf("%d", err)
		}
		if _, _, err := actIs(t, c, release); err != api.ErrState {
			t.Errorf("%d", err)
		}
	}
	for entries, want := range map[int]api.Errno{80: api.OK, 81: api.ErrMany, 100: api.ErrMany} {
		c := atWork(crowd(0, 0, 20, 0), 1, 0, api.RunFunded)
		for range entries {
			c.Journal = append(c.Journal, posted(0, "cash", 1))
		}
		if _, _, err := actIs(t, c, release); err != want {
			t.Errorf("%d entries: %d; want %d", entries, err, want)
		}
	}
}

func TestV5ManyArePaid(t *testing.T) {
	c := atWork(crowd(0, 0, 20, 3), 1, 0, api.RunFunded)
	after, file, err := actIs(t, c, api.Act{Action: api.RunReleased, Who: 4})
	day, l, fault := bank.Parse(file)
	if day != 0 || len(l) != 17 || fault != (api.Fault{}) || err != api.OK || len(after.Slips) != 17 || len(after.Journal) != 17 {
		t.Errorf("%d payments, %d slips, %d entries, %d", len(l), len(after.Slips), len(after.Journal), err)
	}
}

// sayOfVoid is what V6 asks of Void, of a company that may be, whose slips may be posted.
func sayOfVoid(c api.Company, number int, cascade bool) (api.Company, []int, api.Errno) {
	slips, numbers, err := slip.Void(c.Slips, number, cascade)
	if err != api.OK {
		return api.Company{}, nil, err
	}
	after := deepCopy(c)
	after.Slips = slips
	for _, number := range numbers {
		for _, s := range c.Slips {
			e := sayOfEntry(c, s)
			if s.Number != number || len(e.Postings) == 0 {
				continue
			}
			for i := range e.Postings {
				e.Postings[i].Money *= -1
			}
			after.Journal = append(after.Journal, e)
		}
	}
	if len(after.Journal) > 100 {
		return api.Company{}, nil, api.ErrMany
	}
	return after, numbers, api.OK
}

func trial(t *testing.T, c api.Company) []api.Amount {
	t.Helper()
	l, err := ledger.Trial(c.Journal, c.Today)
	if err != api.OK {
		t.Fatalf("Trial: %d", err)
	}
	return l
}

func comesToNothing(t *testing.T, c api.Company) {
	t.Helper()
	sum := 0
	for _, a := range trial(t, c) {
		sum += a.Money
	}
	if sum != 0 {
		t.Errorf("a trial comes to %d", sum)
	}
}

func cashOf(t *testing.T, c api.Company) int {
	t.Helper()
	n, err := ledger.Balance(c.Journal, "cash", c.Today)
	if err != api.OK {
		t.Fatalf("Balance: %d", err)
	}
	return n
}

// balanced: what a released run's file pays is what its nets come to, and what cash goes down by.
func balanced(t *testing.T, before, after api.Company, file string) {
	t.Helper()
	_, l, fault := bank.Parse(file)
	paid, nets := 0, 0
	for _, p := range l {
		paid += p.Money
	}
	for _, s := range after.Slips[len(before.Slips):] {
		net, err := Net(after, s)
		if err != api.OK || s.Run != after.Number {
			t.Errorf("slip %v has the net %d, %d", s, net, err)
		}
		nets += net
	}
	if down := cashOf(t, before) - cashOf(t, after); paid != nets || paid != down || fault != (api.Fault{}) {
		t.Errorf("paid are %d, nets are %d, cash goes down by %d; %v", paid, nets, down, fault)
	}
}

// undone: with each slip of a run made void, the ledger and the totals are as they were ahead of it.
func undone(t *testing.T, before, after api.Company) {
	t.Helper()
	for _, s := range after.Slips[len(before.Slips):] {
		var err api.Errno
		if after, _, err = Void(after, s.Number, true); err == api.ErrMany {
			return // the journal is full
		} else if err != api.OK {
			t.Fatalf("Void of %d: %d", s.Number, err)
		}
	}
	same(t, "the trial", trial(t, after), trial(t, before))
	for _, p := range before.Persons {
		was, _ := slip.Totals(before.Slips, p.Number)
		is, _ := slip.Totals(after.Slips, p.Number)
		same(t, "the totals", is, was)
	}
}

// wayOn is the action that brings a run on, and who may do it.
func wayOn(r api.Run) api.Act {
	if r.State == api.RunClosed {
		return api.Act{}
	}
	return api.Act{Action: r.State + 1, Who: brought(api.RunClosed).Who[r.State+1]}
}

// player plays a company, and holds each call against what is asked of it.
type player struct {
	d        draw
	c        api.Company
	released int
	voided   int
}

func (p *player) act(t *testing.T) {
	a := wayOn(p.c.Run)
	if p.d.below(8) == 0 {
		a = api.Act{Action: p.d.below(9), Who: p.d.below(5)}
	}
	after, file, err := actIs(t, p.c, a)
	if err != api.OK {
		return
	}
	if file != "" {
		p.released++
		balanced(t, p.c, after, file)
		undone(t, p.c, after)
	}
	p.c = after
}

func (p *player) void(t *testing.T) {
	if len(p.c.Slips) == 0 {
		return
	}
	number, cascade := p.d.below(p.c.Slips[len(p.c.Slips)-1].Number+2), p.d.below(2) == 0
	want, numbers, err := sayOfVoid(p.c, number, cascade)
	voidIs(t, p.c, number, cascade, want, numbers, err)
	if err == api.OK {
		p.c = want
		p.voided++
	}
}

func (p *player) change(t *testing.T) {
	r := row(p.d.below(400), p.c.Today, p.d.below(8000))
	if after, err := Change(p.c, 1+p.d.below(20), "pay", r); err == api.OK {
		p.c = after
	}
}

func (p *player) step(t *testing.T) {
	switch p.d.below(12) {
	case 0:
		p.c.Today += p.d.below(10)
	case 1:
		p.void(t)
	case 2:
		p.change(t)
	case 3, 4, 5:
		if after, err := Open(p.c, p.c.Period+p.d.below(3)); err == api.OK {
			p.c = after
		}
	default:
		p.act(t)
	}
	checkIs(t, p.c, api.OK)
	comesToNothing(t, p.c)
}

func TestV7Played(t *testing.T) {
	released, voided := 0, 0
	for n := range 60 {
		p := player{d: draw(n)}
		p.c = drawCompany(&p.d)
		for range 150 {
			p.step(t)
		}
		released += p.released
		voided += p.voided
	}
	if released < 200 || voided < 50 {
		t.Errorf("%d runs were released, %d slips made void", released, voided)
	}
}

// Somebody else's slip made void changes nothing of others, and the last one made void leaves what was ahead of it.
func TestV7OneVoid(t *testing.T) {
	c := atWork(crowd(0, 0, 3, 0), 1, 0, api.RunFunded)
	before, _, _ := Act(c, api.Act{Action: api.RunReleased, Who: 4})
	next, _ := Open(atWork(before, 1, 0, api.RunClosed), 1)
	after, file, err := Act(atWork(next, 2, 1, api.RunFunded), api.Act{Action: api.RunReleased, Who: 4})
	if err != api.OK {
		t.Fatal(err)
	}
	balanced(t, before, after, file)
	undone(t, before, after)
	voided, numbers, err := Void(after, 5, false)
	if len(numbers) != 1 || numbers[0] != 5 || err != api.OK {
		t.Fatalf("Void = %v, %d", numbers, err)
	}
	for number, want := range map[int]int{1: 14, 2: 7, 3: 14} {
		totals, _ := slip.Totals(voided.Slips, number)
		same(t, "totals", totals, []api.Amount{of("a", want)})
	}
	same(t, "trial", trial(t, voided), []api.Amount{of("a", 35), of("cash", -35)})
}
