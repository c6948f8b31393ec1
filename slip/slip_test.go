package slip

import (
	"slices"
	"testing"

	"paycycle/api"
)

// some has slips of two persons, in three runs; one of them does not stand.
func some() []api.Slip {
	return []api.Slip{
		made(1, 1, 1, of("a", 5), of("b", 2)), made(2, 2, 1, of("a", 1)), gone(made(3, 1, 2, of("a", 9))), made(5, 1, 2, of("b", -2)), made(6, 2, 2), made(7, 1, 3, of("z", 1)),
	}
}

func TestR2Written(t *testing.T) {
	totalsAre(t, some(), 1, []api.Amount{of("a", 5), of("z", 1)}, api.OK)
	totalsAre(t, some(), 2, []api.Amount{of("a", 1)}, api.OK)
	totalsAre(t, some(), 3, nil, api.OK)
	totalsAre(t, some(), 999, nil, api.OK)
	totalsAre(t, nil, 1, nil, api.OK)
	totalsAre(t, []api.Slip{gone(made(1, 1, 1, of("a", 5)))}, 1, nil, api.OK)
	totalsAre(t, []api.Slip{made(1, 1, 1, of("b", 5), of("c", 1)), made(2, 1, 1, of("a", 3), of("aa", 1), of("b", 1))}, 1, []api.Amount{of("a", 3), of("aa", 1), of("b", 6), of("c", 1)}, api.OK)
}

func TestR2Errors(t *testing.T) {
	for _, n := range noNumbers() {
		totalsAre(t, some(), n, nil, api.ErrRange)
		totalsAre(t, nil, n, nil, api.ErrRange)
	}
	for _, sign := range []int{1, -1} {
		l := []api.Slip{made(1, 1, 1, of("a", sign*most), of("b", 1)), made(2, 1, 1, of("a", sign)), made(3, 2, 1, of("a", sign))}
		totalsAre(t, l, 1, nil, api.ErrRange)
		totalsAre(t, l, 2, []api.Amount{of("a", sign)}, api.OK)
		totalsAre(t, append(l, made(4, 1, 1, of("a", -sign))), 1, []api.Amount{of("a", sign*most), of("b", 1)}, api.OK)
		totalsAre(t, without(l, []int{1}), 1, []api.Amount{of("a", sign)}, api.OK)
		totalsAre(t, without(l, []int{2}), 1, []api.Amount{of("a", sign*most), of("b", 1)}, api.OK)
	}
	all := row(api.MaxSlips)
	for i := range all {
		all[i] = made(1+i, 1, 1, of("a", most))
	}
	totalsAre(t, all, 1, nil, api.ErrRange)
	// names of which each is the greatest are not one together
	totalsAre(t, []api.Slip{made(1, 1, 1, of("a", most)), made(2, 1, 1, of("b", most))}, 1, []api.Amount{of("a", most), of("b", most)}, api.OK)
}

func TestR2OneByOne(t *testing.T) {
	var d draw
	for n := range 2000 {
		l := drawSlips(&d, n%30, 4, 1+n%5)
		for person := 1; person <= 5; person++ {
			totalsAre(t, l, person, totalsOneByOne(l, person), api.OK)
		}
	}
}

func TestR3Void(t *testing.T) {
	l := some()
	for _, cascade := range []bool{false, true} {
		voidIs(t, l, 7, cascade, without(l, []int{7}), []int{7}, api.OK)
		voidIs(t, l, 6, cascade, without(l, []int{6}), []int{6}, api.OK)
		voidIs(t, l, 3, cascade, nil, nil, api.ErrState)
		for _, n := range append(noNumbers(), 4, 8, 999) {
			voidIs(t, l, n, cascade, nil, nil, api.ErrNone)
			voidIs(t, nil, n, cascade, nil, nil, api.ErrNone)
		}
		one := []api.Slip{made(1, 1, 1, of("a", 5))}
		voidIs(t, one, 1, cascade, []api.Slip{gone(one[0])}, []int{1}, api.OK)
	}
	voidIs(t, l, 1, false, nil, nil, api.ErrLater)
	voidIs(t, l, 2, false, nil, nil, api.ErrLater)
	voidIs(t, l, 5, false, nil, nil, api.ErrLater)
	voidIs(t, l, 1, true, without(l, []int{1, 5, 7}), []int{7, 5, 1}, api.OK)
	voidIs(t, l, 2, true, without(l, []int{2, 6}), []int{6, 2}, api.OK)
	voidIs(t, l, 5, true, without(l, []int{5, 7}), []int{7, 5}, api.OK)
}

// TestR3WhatIsGoneIsNotInTheWay: a later slip counts only while it stands.
func TestR3WhatIsGoneIsNotInTheWay(t *testing.T) {
	l := []api.Slip{made(1, 1, 1), gone(made(2, 1, 1)), gone(made(3, 1, 2)), made(4, 2, 2)}
	for _, cascade := range []bool{false, true} {
		voidIs(t, l, 1, cascade, without(l, []int{1}), []int{1}, api.OK)
	}
	// what does not stand is ErrState, also where a later one does
	l = []api.Slip{gone(made(1, 1, 1)), made(2, 1, 1)}
	voidIs(t, l, 1, false, nil, nil, api.ErrState)
	voidIs(t, l, 1, true, nil, nil, api.ErrState)
}

func TestR3VoidRun(t *testing.T) {
	l := some()
	voidRunIs(t, l, 1, without(l, []int{1, 2, 5, 6, 7}), []int{7, 5, 1, 6, 2}, api.OK)
	voidRunIs(t, l, 2, without(l, []int{5, 6, 7}), []int{7, 5, 6}, api.OK)
	voidRunIs(t, l, 3, without(l, []int{7}), []int{7}, api.OK)
	for _, n := range append(noNumbers(), 4, 999) {
		voidRunIs(t, l, n, nil, nil, api.ErrNone)
		voidRunIs(t, nil, n, nil, nil, api.ErrNone)
	}
	voidRunIs(t, []api.Slip{gone(made(1, 1, 1)), made(2, 1, 2)}, 1, nil, nil, api.ErrNone)
	// persons come as their slips in the run do, not by their numbers; one who has more than one comes once
	l = []api.Slip{made(1, 9, 1), made(2, 9, 2), made(3, 1, 2), made(4, 5, 2), made(5, 1, 2), made(6, 9, 2), made(7, 1, 3), made(8, 4, 3)}
	voidRunIs(t, l, 2, without(l, []int{2, 3, 4, 5, 6, 7}), []int{6, 2, 7, 5, 3, 4}, api.OK)
	// a slip of the run that does not stand gives its person no place
	l = []api.Slip{gone(made(1, 1, 1)), made(2, 2, 1), made(3, 1, 1), made(4, 2, 2)}
	voidRunIs(t, l, 1, without(l, []int{2, 3, 4}), []int{4, 2, 3}, api.OK)
}

func TestR3AsAsked(t *testing.T) {
	var d draw
	said := map[api.Errno]int{}
	for n := range 1000 {
		l := drawSlips(&d, n%25, 1+n%5, 3)
		for k := -1; k <= 80; k++ {
			for _, cascade := range []bool{false, true} {
				want, wantGone, err := sayOfVoid(l, k, cascade)
				said[err]++
				voidIs(t, l, k, cascade, want, wantGone, err)
			}
		}
		for run := range 6 {
			want, wantGone, err := sayOfVoidRun(l, run)
			voidRunIs(t, l, run, want, wantGone, err)
		}
	}
	for _, err := range []api.Errno{api.OK, api.ErrNone, api.ErrState, api.ErrLater} {
		if said[err] < 100 {
			t.Errorf("%d was told %d times alone", err, said[err])
		}
	}
}

func TestR4Lasts(t *testing.T) {
	lastsAre(t, nil, nil, api.OK)
	lastsAre(t, some(), []int{6, 7}, api.OK)
	lastsAre(t, some()[:2], []int{1, 2}, api.OK)
	lastsAre(t, []api.Slip{gone(made(1, 1, 1))}, nil, api.OK)
	lastsAre(t, []api.Slip{made(1, 1, 1), gone(made(2, 1, 1)), made(3, 2, 1)}, []int{1, 3}, api.OK)
	lastsAre(t, []api.Slip{made(1, 9, 1), made(2, 3, 1), made(3, 9, 1), made(10, 1, 1), made(999, 4, 1)}, []int{2, 3, 10, 999}, api.OK)
	all := row(api.MaxSlips)
	lastsAre(t, all, []int{198, 199, 200}, api.OK)
	var want []int
	for i := range all {
		all[i].Person = api.MaxPersons - i
		want = append(want, 1+i)
	}
	lastsAre(t, all, want, api.OK)
	var d draw
	for n := range 2000 {
		l := drawSlips(&d, n%30, 1+n%6, 3)
		var want []int
		for i, s := range l {
			if !s.Gone && len(standing(l[i:], s.Person, 0)) == 1 {
				want = append(want, s.Number)
			}
		}
		lastsAre(t, l, want, api.OK)
	}
}

func TestR5TheLastOneVoid(t *testing.T) {
	var d draw
	for n := range 1000 {
		l := drawSlips(&d, n%25, 1+n%4, 5)
		lasts, _ := Lasts(l)
		for _, last := range lasts {
			at := slices.IndexFunc(l, func(s api.Slip) bool { return s.Number == last })
			after, gone, err := Void(l, last, false)
			if !slices.Equal(gone, []int{last}) || err != api.OK {
				t.Fatalf("Void(%s, %d, false) = %v, %d", short(l), last, gone, err)
			}
			ahead, _ := Totals(l[:at], l[at].Person)
			totalsAre(t, after, l[at].Person, ahead, api.OK)
			for person := 1; person <= 5; person++ {
				if was, _ := Totals(l, person); person != l[at].Person {
					totalsAre(t, after, person, was, api.OK)
				}
			}
		}
	}
}

func TestR5CascadeIsOneBehindTheOther(t *testing.T) {
	var d draw
	for n := range 1000 {
		l := drawSlips(&d, n%25, 1+n%4, 5)
		for _, s := range l {
			if s.Gone {
				continue
			}
			after, gone, _ := Void(l, s.Number, true)
			step := l
			for _, number := range gone {
				var err api.Errno
				if step, _, err = Void(step, number, false); err != api.OK {
					t.Fatalf("Void of %d, one of %v, of %s: %d", number, gone, short(l), err)
				}
			}
			if !slipsEqual(step, after) {
				t.Errorf("one behind the other, %s are %s; want %s", short(l), short(step), short(after))
			}
			checkIs(t, after, api.OK)
		}
	}
}

// What is promised for all chapters: P1 is held in all tests, by what they ask of answers beside an error.

func overwrite(l []api.Slip) {
	for i := range l {
		totals := l[i].Totals[:cap(l[i].Totals)]
		for k := range totals {
			totals[k] = of("zz", 9)
		}
	}
	for i := range l[:cap(l)] {
		l[:cap(l)][i] = made(99, 99, 99)
	}
}

func TestAllP2InputsAreOnlyRead(t *testing.T) {
	both := []api.Amount{of("a", 1), of("b", 2), of("spare", 7)}
	room := []api.Slip{made(1, 1, 1, both[:2]...), made(2, 1, 1, both[:2]...), made(77, 7, 7), made(88, 8, 8)}
	before, bothBefore := deepCopy(room), slices.Clone(both)
	l := room[:2]
	asTheyAre := func(when string) {
		if !slipsEqual(room, before) || !slices.Equal(both, bothBefore) {
			t.Errorf("%s, what was handed in is %v, %v", when, room, both)
		}
	}
	one, oneGone, _ := Void(l, 2, false)
	all, allGone, _ := Void(l, 1, true)
	run, runGone, _ := VoidRun(l, 1)
	totals, _ := Totals(l, 1)
	lasts, _ := Lasts(l)
	Void(l, 1, false)
	Check(l)
	asTheyAre("behind calls")
	for _, answer := range [][]api.Slip{one, all, run} {
		answer[0].Totals[0] = of("x", 3)
		if !slices.Equal(answer[1].Totals, bothBefore[:2]) {
			t.Errorf("a change of one list is seen in another one: %v", answer)
		}
		overwrite(answer)
	}
	for _, numbers := range [][]int{oneGone, allGone, runGone, lasts} {
		clear(numbers[:cap(numbers)])
	}
	clear(totals[:cap(totals)])
	asTheyAre("behind changes of answers")
	kept, _, _ := Void(l, 2, false)
	both[0] = of("y", 4)
	if !slipsEqual(kept, without(before[:2], []int{2})) {
		t.Errorf("a change of what was handed in is seen in an answer: %v", kept)
	}
}

func TestAllP3TheSameEachTime(t *testing.T) {
	var d draw
	l := drawSlips(&d, 100, 20, 5)
	lasts, _ := Lasts(l)
	for range 50 {
		totalsAre(t, l, 3, totalsOneByOne(l, 3), api.OK)
		lastsAre(t, l, lasts, api.OK)
		want, wantGone, err := sayOfVoidRun(l, 2)
		voidRunIs(t, l, 2, want, wantGone, err)
	}
}
