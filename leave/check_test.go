package leave

import (
	"slices"
	"testing"

	"paycycle/api"
)

func TestT2Right(t *testing.T) {
	for _, l := range append(someLeaves(), leaveOf(api.MaxDay, 1000, 100000), leaveOf(api.MaxDay, 0, 0)) {
		checkIs(t, l, nil, api.OK)
		checkIs(t, l, []api.Use{}, api.OK)
	}
	l := leaveOf(10, 250, 1000)
	hundred := slices.Repeat(used(31, 1), api.MaxUses)
	for _, uses := range [][]api.Use{
		used(31, 250), used(31, 1, 31, 249), used(60, 100, 60, 400), used(31, 250, 60, 250), used(365, 2750), used(366, 1250), used(366, 250, 366, 1000), used(api.MaxDay, 4000), hundred,
		used(31, 250, 731, 1250), used(60, 500, 366, 1250), used(400, 1000, 800, 1000), used(365, 2750, 366, 250),
	} {
		checkIs(t, l, uses, api.OK)
	}
	checkIs(t, leaveOf(0, 1000, 100000), used(73018, 100000), api.OK)
}

func TestT2WrongLeaves(t *testing.T) {
	var wrong []api.Leave
	for _, n := range noDays() {
		wrong = append(wrong, leaveOf(n, 250, 1000), leaveOf(n, -1, -1), leaveOf(0, n, 1000)) // what is no day is no rate
	}
	for _, n := range noUsed()[:2] {
		wrong = append(wrong, leaveOf(0, 250, n), leaveOf(0, n, 0))
	}
	wrong = append(wrong, leaveOf(5, 1001, 0), leaveOf(5, 0, 100001), leaveOf(api.MaxDay+1, 0, 0), leaveOf(5, 1001, 100001))
	for _, l := range wrong {
		for _, uses := range [][]api.Use{nil, used(60, 1), used(-1, 0), used(60, 1, 59, 1), make([]api.Use, api.MaxUses+1)} {
			refused(t, l, uses, api.ErrRange)
		}
		for _, day := range append(noDays(), 0, 5, api.MaxDay) {
			lastIs(t, l, day, 0, api.ErrRange)
		}
	}
}

func TestT2Many(t *testing.T) {
	l := leaveOf(10, 250, 1000)
	for _, uses := range [][]api.Use{slices.Repeat(used(31, 1), api.MaxUses+1), make([]api.Use, api.MaxUses+1), append(used(60, 1, 59, 1), make([]api.Use, api.MaxUses)...), slices.Repeat(used(31, 250), api.MaxUses+1), make([]api.Use, 1<<16)} {
		refused(t, l, uses, api.ErrMany)
	}
}

func TestT2EachUse(t *testing.T) {
	l := leaveOf(10, 250, 1000)
	fine := used(31, 1)
	var wrong []api.Use
	for _, day := range append(noDays(), 0, 9) {
		wrong = append(wrong, api.Use{Day: day, Days: 1}, api.Use{Day: day}, api.Use{Day: day, Days: 100000})
	}
	for _, days := range noUsed() {
		wrong = append(wrong, api.Use{Day: 31, Days: days}, api.Use{Day: 10, Days: days}, api.Use{Day: 9, Days: days}, api.Use{Day: 20, Days: days})
	}
	for _, u := range wrong {
		for _, uses := range [][]api.Use{{u}, {u, fine[0]}, {fine[0], u}, {u, u}, append(slices.Repeat(fine, api.MaxUses-1), u)} {
			refused(t, l, uses, api.ErrRange)
		}
	}
}

func TestT2Order(t *testing.T) {
	l := leaveOf(10, 250, 1000)
	for _, uses := range [][]api.Use{used(60, 1, 59, 1), used(60, 1, 60, 1, 59, 1), used(60, 1, 61, 1, 60, 1), used(api.MaxDay, 1, 60, 1), append(slices.Repeat(used(60, 1), api.MaxUses-1), used(59, 1)...)} {
		refused(t, l, uses, api.ErrState)
	}
}

func TestT2LessIsHad(t *testing.T) {
	l := leaveOf(10, 250, 1000)
	for _, uses := range [][]api.Use{
		used(10, 1), used(30, 1), used(31, 251), used(31, 250, 31, 1), used(31, 1, 31, 250), used(59, 251), used(60, 501), used(31, 250, 59, 1), used(365, 2751), used(366, 1251), used(366, 1000, 366, 251),
		used(367, 1251), used(365, 1750, 366, 1251), used(31, 250, 731, 1251), used(api.MaxDay, 4001), used(30, 1, 60, 1), used(60, 1, 60, 500, 90, 1),
	} {
		refused(t, l, uses, api.ErrState)
	}
	refused(t, leaveOf(31, 100, 0), used(31, 1), api.ErrState)
	refused(t, leaveOf(366, 100, 1000), used(366, 1), api.ErrState)
	refused(t, leaveOf(api.MaxDay, 1000, 1000), used(api.MaxDay, 1), api.ErrState)
	refused(t, leaveOf(0, 1000, 100000), used(73018, 100000, 73018, 100000), api.ErrState)
}

// TestT2WhichError: what is wrong with a use, and its place, is told use by use, and ahead of what is had.
func TestT2WhichError(t *testing.T) {
	l := leaveOf(10, 250, 1000)
	for _, c := range []struct {
		uses []api.Use
		want api.Errno
	}{
		{used(60, 1, 59, 1, -1, 1), api.ErrState}, {used(60, 1, -1, 1, 59, 1), api.ErrRange}, {used(60, 1, 9, 1), api.ErrRange}, {used(60, 1, 59, 0), api.ErrRange}, {used(60, 1, 59, 1, 61, 0), api.ErrState},
		{used(30, 1, 31, 0), api.ErrRange}, {used(31, 251, api.MaxDay+1, 1), api.ErrRange}, {used(31, 251, 60, 100001), api.ErrRange},
	} {
		refused(t, l, c.uses, c.want)
	}
}

// spoil makes something wrong, perhaps, or more than one thing.
func spoil(d *draw, l *api.Leave, uses []api.Use) {
	for range d.below(3) {
		if len(uses) == 0 {
			return
		}
		u := &uses[d.below(len(uses))]
		switch d.below(6) {
		case 0:
			u.Day = append(noDays(), l.Hired-1)[d.below(5)]
		case 1:
			u.Day += d.below(80) - 40
		case 2:
			u.Days = noUsed()[d.below(5)]
		case 3:
			u.Days++
		case 4:
			l.Carry = max(l.Carry-1, 0)
		case 5:
			l.Hired = noDays()[d.below(4)]
		}
	}
}

func TestT2AsAsked(t *testing.T) {
	var d draw
	said := map[api.Errno]int{}
	for n := range 4000 {
		l := someLeaves()[n%len(someLeaves())]
		uses := drawUses(&d, l, d.below(7), 900)
		checkIs(t, l, uses, api.OK)
		spoil(&d, &l, uses)
		want := sayOfLeave(l, uses)
		said[want]++
		checkIs(t, l, uses, want)
	}
	for _, err := range []api.Errno{api.OK, api.ErrRange, api.ErrState} {
		if said[err] < 100 {
			t.Errorf("%d was told %d times alone", err, said[err])
		}
	}
}
