package ledger

import (
	"slices"
	"testing"

	"paycycle/api"
)

func TestQ2Post(t *testing.T) {
	one, next := two(1, "a", "b", 5), two(3, "b", "cash", -2)
	postIs(t, nil, one, []api.Entry{one}, api.OK)
	postIs(t, []api.Entry{}, one, []api.Entry{one}, api.OK)
	postIs(t, []api.Entry{one}, one, []api.Entry{one, one}, api.OK)
	postIs(t, []api.Entry{one}, next, []api.Entry{one, next}, api.OK)
	postIs(t, []api.Entry{one, next}, next, []api.Entry{one, next, next}, api.OK)
	postIs(t, []api.Entry{one, next}, one, nil, api.ErrState)
	postIs(t, []api.Entry{one, next}, two(2, "a", "b", 5), nil, api.ErrState)
	all := row(api.MaxEntries)
	postIs(t, all[:api.MaxEntries-1], all[api.MaxEntries-1], all, api.OK)
	postIs(t, all, two(api.MaxDay, "a", "b", 5), nil, api.ErrMany)
	postIs(t, all, entry(-1), nil, api.ErrMany)
	postIs(t, all, two(0, "a", "b", 5), nil, api.ErrMany)
}

// TestQ2PostTellsTheJournalFirst: what is wrong with the journal goes ahead of what is wrong with both together.
func TestQ2PostTellsTheJournalFirst(t *testing.T) {
	bad := row(api.MaxEntries)
	bad[50].Postings[0].Account = "A"
	postIs(t, bad, two(api.MaxDay, "a", "b", 5), nil, api.ErrForm)
	postIs(t, []api.Entry{two(2, "a", "b", 1), two(1, "a", "b", 1)}, two(5, "A", "b", 1), nil, api.ErrState)
}

func TestQ2Turn(t *testing.T) {
	turnIs(t, two(1, "a", "b", 5), two(1, "a", "b", -5), api.OK)
	turnIs(t, two(0, "b", "a", -5), two(0, "b", "a", 5), api.OK)
	turnIs(t, two(api.MaxDay, "a", "z", most), two(api.MaxDay, "a", "z", -most), api.OK)
	turnIs(t, entry(3, to("a", 7), to("cash", -3), to("cash", -4)), entry(3, to("a", -7), to("cash", 3), to("cash", 4)), api.OK)
}

func TestQ3Written(t *testing.T) {
	j := []api.Entry{two(1, "a", "b", 5), entry(3, to("a", 7), to("cash", -3), to("cash", -4)), two(3, "b", "a", 2), two(9, "b", "a", 3)}
	for _, c := range []struct{ day, a, b, cash int }{{0, 0, 0, 0}, {1, 5, -5, 0}, {2, 5, -5, 0}, {3, 10, -3, -7}, {8, 10, -3, -7}, {9, 7, 0, -7}, {api.MaxDay, 7, 0, -7}} {
		balanceIs(t, j, "a", c.day, c.a, api.OK)
		balanceIs(t, j, "b", c.day, c.b, api.OK)
		balanceIs(t, j, "cash", c.day, c.cash, api.OK)
		balanceIs(t, j, "none", c.day, 0, api.OK)
	}
	movedIs(t, j, "a", 0, api.MaxDay, 12, 5, api.OK)
	movedIs(t, j, "a", 3, 3, 7, 2, api.OK)
	movedIs(t, j, "a", 2, 8, 7, 2, api.OK)
	movedIs(t, j, "a", 4, 8, 0, 0, api.OK)
	movedIs(t, j, "b", 1, 3, 2, 5, api.OK)
	movedIs(t, j, "cash", 3, 9, 0, 7, api.OK)
	movedIs(t, j, "c", 0, 9, 0, 0, api.OK)
	trialIs(t, j, 0, nil, api.OK)
	trialIs(t, j, 1, []api.Amount{{Name: "a", Money: 5}, {Name: "b", Money: -5}}, api.OK)
	trialIs(t, j, 3, []api.Amount{{Name: "a", Money: 10}, {Name: "b", Money: -3}, {Name: "cash", Money: -7}}, api.OK)
	trialIs(t, j, 9, []api.Amount{{Name: "a", Money: 7}, {Name: "cash", Money: -7}}, api.OK)
	trialIs(t, nil, 0, nil, api.OK)
	balanceIs(t, nil, "a", 0, 0, api.OK)
	movedIs(t, nil, "a", 0, 0, 0, 0, api.OK)
}

func TestQ3ByNames(t *testing.T) {
	j := []api.Entry{entry(1, to("b", 4), to("ab", 3), to("a", 1), to("aa", 2), to("z", -10)), two(1, "z", "aaa", 1)}
	trialIs(t, j, 1, []api.Amount{{Name: "a", Money: 1}, {Name: "aa", Money: 2}, {Name: "aaa", Money: -1}, {Name: "ab", Money: 3}, {Name: "b", Money: 4}, {Name: "z", Money: -9}}, api.OK)
}

// TestQ3OfTheGreatest: a balance may be more than money may be.
func TestQ3OfTheGreatest(t *testing.T) {
	var great api.Entry
	for i := range api.MaxPostings {
		great.Postings = append(great.Postings, to([]string{"a", "b"}[i%2], most-2*most*(i%2)))
	}
	j := slices.Repeat([]api.Entry{great}, api.MaxEntries)
	all := api.MaxEntries * api.MaxPostings / 2 * most
	balanceIs(t, j, "a", 0, all, api.OK)
	balanceIs(t, j, "b", 0, -all, api.OK)
	movedIs(t, j, "a", 0, 0, all, 0, api.OK)
	movedIs(t, j, "b", 0, 0, 0, all, api.OK)
	trialIs(t, j, 0, []api.Amount{{Name: "a", Money: all}, {Name: "b", Money: -all}}, api.OK)
}

// TestQ3PostingsMayBeLeft: who ranges over them may stop at any.
func TestQ3PostingsMayBeLeft(t *testing.T) {
	j := row(3)
	for n := range 7 {
		seen := 0
		for range postings(j, 0, 5) {
			if seen == n {
				break
			}
			seen++
		}
		if seen != n {
			t.Errorf("%d postings went by; want %d", seen, n)
		}
	}
}

func TestQ3Errors(t *testing.T) {
	for _, j := range [][]api.Entry{nil, row(9)} {
		for _, name := range noNames() {
			for _, day := range append(noDays(), 0, 5) {
				balanceIs(t, j, name, day, 0, api.ErrForm)
				movedIs(t, j, name, 2, day, 0, 0, api.ErrForm)
				movedIs(t, j, name, day, 2, 0, 0, api.ErrForm)
			}
		}
		for _, day := range noDays() {
			balanceIs(t, j, "a", day, 0, api.ErrRange)
			trialIs(t, j, day, nil, api.ErrRange)
			movedIs(t, j, "a", day, 5, 0, 0, api.ErrRange)
			movedIs(t, j, "a", 5, day, 0, 0, api.ErrRange)
			movedIs(t, j, "a", day, day, 0, 0, api.ErrRange)
		}
		movedIs(t, j, "a", 1, 0, 0, 0, api.ErrRange)
		movedIs(t, j, "a", api.MaxDay, api.MaxDay-1, 0, 0, api.ErrRange)
		balanceIs(t, j, "none", 0, 0, api.OK)
		movedIs(t, j, "none", api.MaxDay, api.MaxDay, 0, 0, api.OK)
	}
}

func TestQ3OneByOne(t *testing.T) {
	var d draw
	for n := range 400 {
		j := drawJournal(&d, n%30, 1+n%7)
		for _, account := range append(fewAccounts(), "none") {
			for from := range 11 {
				in, out := movedOneByOne(j, account, 0, from)
				balanceIs(t, j, account, from, in-out, api.OK)
				for to := from; to < 11; to++ {
					in, out := movedOneByOne(j, account, from, to)
					movedIs(t, j, account, from, to, in, out, api.OK)
				}
			}
		}
		for day := range 11 {
			trialIs(t, j, day, trialOneByOne(j, day), api.OK)
		}
	}
}

func TestQ4TrialComesToNought(t *testing.T) {
	var d draw
	for n := range 500 {
		j := drawJournal(&d, n%40, most/8)
		for day := range 10 {
			trial, err := Trial(j, day)
			all := 0
			for _, a := range trial {
				all += a.Money
				balanceIs(t, j, a.Name, day, a.Money, api.OK)
			}
			if all != 0 || err != api.OK {
				t.Errorf("Trial(%s, %d) = %v, %d, which comes to %d", short(j), day, trial, err, all)
			}
		}
	}
}

func TestQ4TurnLeavesTheTrial(t *testing.T) {
	var d draw
	for n := range 1000 {
		j := drawJournal(&d, n%20, 5)
		e := drawEntry(&d, 9, 5)
		before, _ := Trial(j, 9)
		j, _ = Post(j, e)
		turned, _ := Turn(e)
		turnIs(t, turned, e, api.OK)
		j, err := Post(j, turned)
		if len(j) != n%20+2 || err != api.OK {
			t.Fatalf("posted: %s, %d", short(j), err)
		}
		trialIs(t, j, 9, before, api.OK)
	}
}

func TestQ4BalanceIsWhatWasMoved(t *testing.T) {
	var d draw
	for n := range 300 {
		j := drawJournal(&d, n%20, most/8)
		for _, account := range fewAccounts() {
			for day := range 10 {
				in, out, _ := Moved(j, account, 0, day)
				balanceIs(t, j, account, day, in-out, api.OK)
			}
		}
	}
}

func TestQ4AnyOrderOfADay(t *testing.T) {
	var d draw
	for n := range 300 {
		j := drawJournal(&d, n%30, 5)
		other := slices.Clone(j)
		for i := 1; i < len(other); i++ {
			if k := d.below(i + 1); other[i].Day == other[k].Day {
				other[i], other[k] = other[k], other[i]
			}
		}
		var posted []api.Entry
		for _, e := range other {
			posted, _ = Post(posted, e)
		}
		for day := range 10 {
			trial, _ := Trial(j, day)
			trialIs(t, posted, day, trial, api.OK)
			in, out, _ := Moved(j, "a", 2, max(day, 2))
			movedIs(t, posted, "a", 2, max(day, 2), in, out, api.OK)
		}
	}
}

// What is promised for all chapters: P1 is held in all tests, by what they ask of answers beside an error.

func overwrite(j []api.Entry) {
	for i := range j {
		for k := range j[i].Postings[:cap(j[i].Postings)] {
			j[i].Postings[:cap(j[i].Postings)][k] = to("zz", 9)
		}
	}
	for i := range j[:cap(j)] {
		j[:cap(j)][i] = entry(99)
	}
}

func TestAllP2InputsAreOnlyRead(t *testing.T) {
	both := []api.Posting{to("a", 1), to("b", -1), to("spare", 7)}
	room := []api.Entry{entry(1, both[:2]...), entry(2, both[:2]...), entry(55), entry(66)}
	before := deepCopy(room)
	bothBefore := slices.Clone(both)
	posted, _ := Post(room[:2], api.Entry{Day: 3, Postings: both[:2]})
	turned, _ := Turn(api.Entry{Day: 3, Postings: both[:2]})
	trial, _ := Trial(room[:2], 5)
	Balance(room[:2], "a", 5)
	Moved(room[:2], "a", 0, 5)
	Check(room[:2])
	if !journalsEqual(room, before) || !slices.Equal(both, bothBefore) {
		t.Errorf("what was handed in is %v, %v now", room, both)
	}
	posted[0].Postings[0] = to("x", 3)
	if !slices.Equal(posted[1].Postings, bothBefore[:2]) || !slices.Equal(posted[2].Postings, bothBefore[:2]) {
		t.Errorf("a change of one list is seen in another one: %v", posted)
	}
	overwrite(posted)
	overwrite([]api.Entry{turned})
	for i := range trial[:cap(trial)] {
		trial[:cap(trial)][i] = api.Amount{Name: "z"}
	}
	if !journalsEqual(room, before) || !slices.Equal(both, bothBefore) {
		t.Errorf("a change of an answer is seen in what was handed in: %v, %v", room, both)
	}
	kept, _ := Post(room[:1], room[1])
	both[0] = to("y", 4)
	if !journalsEqual(kept, before[:2]) {
		t.Errorf("a change of what was handed in is seen in an answer: %v", kept)
	}
}

func TestAllP3TheSameEachTime(t *testing.T) {
	var d draw
	j := drawJournal(&d, 60, 5)
	trial := trialOneByOne(j, 7)
	for range 50 {
		trialIs(t, j, 7, trial, api.OK)
		checkIs(t, j, api.OK)
	}
}
