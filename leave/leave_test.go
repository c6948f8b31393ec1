package leave

import (
	"slices"
	"testing"

	"paycycle/api"
)

func TestT1Written(t *testing.T) {
	hadIs(t, leaveOf(0, 250, 1000), nil, 60, 500, api.OK)
	for _, c := range []struct {
		l         api.Leave
		uses      []api.Use
		day, want int
	}{
		{leaveOf(0, 250, 1000), nil, 0, 0}, {leaveOf(0, 250, 1000), nil, 30, 0}, {leaveOf(0, 250, 1000), nil, 31, 250}, {leaveOf(0, 250, 1000), nil, 59, 250},
		{leaveOf(31, 250, 1000), nil, 31, 0}, {leaveOf(31, 250, 1000), nil, 59, 0}, {leaveOf(31, 250, 1000), nil, 60, 250}, {leaveOf(30, 250, 1000), nil, 31, 250},
		{leaveOf(10, 250, 1000), nil, 365, 2750}, {leaveOf(10, 250, 1000), nil, 366, 1250}, {leaveOf(10, 250, 1000), nil, 731, 1250}, {leaveOf(10, 250, 1000), nil, api.MaxDay, 4000},
		{leaveOf(10, 250, 2750), nil, 366, 3000}, {leaveOf(10, 250, 2749), nil, 366, 2999}, {leaveOf(10, 250, 0), nil, 366, 250}, {leaveOf(366, 250, 0), nil, 366, 0}, {leaveOf(366, 250, 0), nil, 731, 250}, {leaveOf(365, 250, 0), nil, 366, 250},
		{leaveOf(10, 250, 1000), used(366, 1250), 366, 0}, {leaveOf(10, 250, 1000), used(366, 1250), 365, 2750}, {leaveOf(10, 250, 1000), used(365, 1750), 366, 1250}, {leaveOf(10, 250, 1000), used(365, 1751), 366, 1249},
		{leaveOf(10, 250, 1000), used(60, 100, 60, 400), 60, 0}, {leaveOf(10, 250, 1000), used(60, 100, 60, 400), 59, 250}, {leaveOf(10, 250, 1000), used(60, 100, 61, 7), 60, 400}, {leaveOf(10, 250, 1000), used(60, 100, 61, 7), 61, 393},
		{leaveOf(10, 0, 1000), nil, api.MaxDay, 0}, {leaveOf(0, 1000, 100000), nil, api.MaxDay, 112000}, {leaveOf(api.MaxDay, 1000, 1000), nil, api.MaxDay, 0}, {leaveOf(api.MaxDay-31, 1000, 1000), nil, api.MaxDay, 1000},
	} {
		hadIs(t, c.l, c.uses, c.day, c.want, api.OK)
	}
}

func TestT3EachDay(t *testing.T) {
	var d draw
	for n, l := range someLeaves() {
		for _, uses := range [][]api.Use{nil, drawUses(&d, l, 1, 40), drawUses(&d, l, 5, 500), drawUses(&d, l, 20, 1400)} {
			to := l.Hired + 1500
			b := dayByDay(l, uses, to)
			for i, had := range b.had {
				hadIs(t, l, uses, l.Hired+i, had, api.OK)
				if uses == nil {
					lastIs(t, l, l.Hired+i, b.lost[i], api.OK)
				}
			}
		}
		if n%5 == 0 {
			b := dayByDay(l, nil, api.MaxDay)
			hadIs(t, l, nil, api.MaxDay, b.had[len(b.had)-1], api.OK)
			lastIs(t, l, api.MaxDay, b.lost[len(b.lost)-1], api.OK)
		}
	}
}

func TestT3WrongDays(t *testing.T) {
	for _, l := range append(someLeaves(), leaveOf(api.MaxDay, 250, 0)) {
		for _, day := range append(noDays(), l.Hired-1) {
			hadIs(t, l, nil, day, 0, api.ErrRange)
			lastIs(t, l, day, 0, api.ErrRange)
		}
		if l.Hired > 0 {
			hadIs(t, l, nil, 0, 0, api.ErrRange)
			lastIs(t, l, 0, 0, api.ErrRange)
		}
		for _, day := range noDays() {
			for _, days := range append(noUsed(), 1, 250, 100000) {
				firstIs(t, l, nil, day, days, 0, api.ErrRange)
			}
		}
		for _, days := range noUsed() {
			firstIs(t, l, nil, 0, days, 0, api.ErrRange)
			firstIs(t, l, nil, l.Hired, days, 0, api.ErrRange)
			firstIs(t, l, nil, api.MaxDay, days, 0, api.ErrRange)
		}
	}
}

func TestT3FirstWritten(t *testing.T) {
	l := leaveOf(10, 250, 1000)
	for _, c := range []struct {
		uses             []api.Use
		from, days, want int
	}{
		{nil, 0, 1, 31}, {nil, 10, 250, 31}, {nil, 31, 250, 31}, {nil, 32, 250, 32}, {nil, 59, 250, 59}, {nil, 0, 251, 60}, {nil, 59, 251, 60}, {nil, 365, 2750, 365}, {nil, 366, 1250, 366}, {nil, 366, 1251, 397}, {nil, 365, 2751, 578},
		{used(31, 250), 0, 1, 60}, {used(31, 249), 0, 1, 31}, {used(31, 249), 0, 2, 60}, {used(60, 100, 60, 400), 0, 1, 91}, {used(80, 100), 0, 1, 80}, {used(80, 100), 81, 1, 81}, {used(80, 100), 0, 400, 80}, {used(80, 100), 0, 401, 91},
		{nil, api.MaxDay, 4000, api.MaxDay}, {used(api.MaxDay, 1), 0, 3999, api.MaxDay}, {nil, 0, 3750, 670}, {nil, 0, 4000, 700},
	} {
		firstIs(t, l, c.uses, c.from, c.days, c.want, api.OK)
	}
	firstIs(t, leaveOf(0, 1000, 100000), nil, 0, 100000, 3043, api.OK)
	firstIs(t, leaveOf(0, 1000, 100000), slices.Repeat(used(60, 1), api.MaxUses), 0, 1, 60, api.OK)
}

func TestT3FirstNone(t *testing.T) {
	l := leaveOf(10, 250, 1000)
	firstIs(t, l, nil, 0, 4001, 0, api.ErrNone)
	firstIs(t, l, nil, 0, 100000, 0, api.ErrNone)
	firstIs(t, l, nil, api.MaxDay, 4001, 0, api.ErrNone)
	firstIs(t, l, used(api.MaxDay, 1), 0, 4000, 0, api.ErrNone)
	firstIs(t, l, used(api.MaxDay, 4000), 0, 1, 0, api.ErrNone)
	firstIs(t, leaveOf(0, 0, 100000), nil, 0, 1, 0, api.ErrNone)
	firstIs(t, leaveOf(api.MaxDay, 1000, 0), nil, 0, 1, 0, api.ErrNone)
	firstIs(t, leaveOf(api.MaxDay-30, 1000, 0), nil, 0, 1, 0, api.ErrNone)
	firstIs(t, leaveOf(api.MaxDay-31, 1000, 0), nil, 0, 1, api.MaxDay-30, api.OK)
}

// TestT3FirstAsAsked: late days alone, so that a book up to the last one is short.
func TestT3FirstAsAsked(t *testing.T) {
	var d draw
	found, none := 0, 0
	for n := range 1500 {
		l := leaveOf(71000+d.below(2049), d.below(1001), d.below(2)*d.below(5000))
		if n%3 == 0 {
			l.Rate = d.below(8)
		}
		uses := drawUses(&d, l, d.below(5), api.MaxDay-l.Hired+1)
		from, days := 71000+d.below(2049), 1+d.below(l.Carry+l.Rate*12+1)
		if n%4 == 0 {
			from = d.below(71000)
		}
		want, err := sayFirst(l, uses, from, days, api.MaxDay)
		firstIs(t, l, uses, from, days, want, err)
		if err == api.OK {
			found++
			checkIs(t, l, append(slices.Clone(uses), api.Use{Day: want, Days: days}), api.OK)
		} else {
			none++
		}
	}
	if found < 100 || none < 100 {
		t.Errorf("%d were found, %d not", found, none)
	}
}

func TestT3LastWritten(t *testing.T) {
	for _, c := range []struct {
		l         api.Leave
		day, want int
	}{
		{leaveOf(10, 250, 1000), 10, 0}, {leaveOf(10, 250, 1000), 365, 0}, {leaveOf(10, 250, 1000), 366, 1750}, {leaveOf(10, 250, 1000), 730, 1750}, {leaveOf(10, 250, 1000), 731, 4750}, {leaveOf(10, 250, 1000), api.MaxDay, 595750},
		{leaveOf(10, 250, 2749), 366, 1}, {leaveOf(10, 250, 2750), 366, 0}, {leaveOf(10, 250, 2750), 731, 3000}, {leaveOf(366, 1000, 0), 366, 0}, {leaveOf(31, 100, 0), 3000, 9400}, {leaveOf(0, 0, 0), api.MaxDay, 0}, {leaveOf(0, 1000, 100000), api.MaxDay, 2287000},
	} {
		lastIs(t, c.l, c.day, c.want, api.OK)
	}
}

// TestT4: what is had is never below 0, nor above what may be carried on a year's first day; who uses less has no less.
func TestT4(t *testing.T) {
	var d draw
	for range 50 {
		l := leaveOf(d.below(500), d.below(1001), d.below(2)*d.below(8000))
		uses := drawUses(&d, l, 1+d.below(6), 1200)
		if len(uses) == 0 {
			continue
		}
		less := slices.Clone(uses)
		if at := d.below(len(less)); less[at].Days > 1 {
			less[at].Days -= 1 + d.below(less[at].Days-1)
		} else {
			less = slices.Delete(less, at, at+1)
		}
		checkIs(t, l, less, api.OK)
		for day := l.Hired; day < l.Hired+1300; day++ {
			had, err := Had(l, uses, day)
			more, errMore := Had(l, less, day)
			if had < 0 || err != api.OK || errMore != api.OK || more < had {
				t.Fatalf("%v, day %d: %d of %v, %d of %v", l, day, had, uses, more, less)
			}
			if goDate(day).YearDay() == 1 && had > l.Carry+l.Rate {
				t.Fatalf("%v, day %d: %d", l, day, had)
			}
		}
	}
}

// P2 and P3: uses are only read, spare room too, and a second time comes to the same.
func TestUsesAreLeftAlone(t *testing.T) {
	l := leaveOf(10, 250, 1000)
	room := used(31, 100, 60, 200, 9, 9, 8, 8)
	want := slices.Clone(room)
	for range 2 {
		checkIs(t, l, room[:2], api.OK)
		hadIs(t, l, room[:2], 60, 200, api.OK)
		firstIs(t, l, room[:2], 0, 201, 91, api.OK)
		lastIs(t, l, 366, 1750, api.OK)
	}
	if !slices.Equal(room, want) {
		t.Errorf("uses and what is behind them became %v", room)
	}
}
