package slip

import (
	"slices"
	"testing"

	"paycycle/api"
)

func TestR1Right(t *testing.T) {
	full := row(api.MaxSlips)
	for i := range full {
		full[i] = made(api.MaxPersons-api.MaxSlips+1+i, 999, 999, long(api.MaxNames)...)
	}
	for _, l := range [][]api.Slip{
		nil, {}, {made(1, 1, 1)}, {made(999, 999, 999)}, {gone(made(5, 6, 7))}, {made(1, 1, 1, of("a", 1))}, {made(1, 1, 1, of("abcdefgh", most))}, {made(1, 1, 1, of("ifs", -most))},
		{made(1, 1, 1, of("a", 1), of("aa", -1), of("ab", 1), of("b", 1), of("z", most))}, {made(1, 1, 1, long(api.MaxNames)...)},
		{made(1, 2, 3), made(2, 1, 1)}, {made(1, 1, 1), made(5, 1, 1), gone(made(7, 1, 1))}, row(api.MaxSlips), full,
	} {
		checkIs(t, l, api.OK)
	}
}

func TestR1Many(t *testing.T) {
	for _, l := range [][]api.Slip{row(api.MaxSlips + 1), make([]api.Slip, api.MaxSlips+1), make([]api.Slip, 1<<16)} {
		refused(t, l, api.ErrMany)
	}
}

// among lays a wrong slip at the beginning of a list, at its end, and between, also void.
func among(t *testing.T, bad api.Slip, want api.Errno) {
	t.Helper()
	fine := made(5, 6, 7, of("a", 1))
	for _, l := range [][]api.Slip{{bad}, {gone(bad)}, {bad, fine}, {fine, bad}, {fine, gone(bad), fine}, append(row(api.MaxSlips-1), bad)} {
		refused(t, l, want)
	}
}

func TestR1EachSlip(t *testing.T) {
	for _, n := range noNumbers() {
		among(t, made(n, 1, 1), api.ErrRange)
		among(t, made(1, n, 1), api.ErrRange)
		among(t, made(1, 1, n), api.ErrRange)
		among(t, made(1, 1, n, make([]api.Amount, api.MaxNames+1)...), api.ErrRange)
		among(t, made(1, n, 1, of("A", 1)), api.ErrRange)
	}
	for _, totals := range [][]api.Amount{long(api.MaxNames + 1), make([]api.Amount, api.MaxNames+1), make([]api.Amount, 1<<16)} {
		among(t, made(1, 1, 1, totals...), api.ErrMany)
	}
	for _, name := range noNames() {
		among(t, made(1, 1, 1, of(name, 1)), api.ErrForm)
		among(t, made(1, 1, 1, of("a", 1), of(name, 1)), api.ErrForm)
		among(t, made(1, 1, 1, of("a", 0), of("a", 1), of(name, 1)), api.ErrForm)
		among(t, made(1, 1, 1, of(name, 0), of("a", 1)), api.ErrForm)
	}
	for _, money := range noMoneys() {
		among(t, made(1, 1, 1, of("a", money)), api.ErrRange)
		among(t, made(1, 1, 1, of("a", 1), of("b", money)), api.ErrRange)
		among(t, made(1, 1, 1, of("b", 1), of("a", 1), of("c", money)), api.ErrRange)
	}
	for _, totals := range [][]api.Amount{
		{of("a", 1), of("a", 1)}, {of("a", 1), of("a", 2)}, {of("b", 1), of("a", 1)}, {of("aa", 1), of("a", 1)}, {of("a", 1), of("b", 1), of("b", 1)}, {of("a", 1), of("c", 1), of("b", 1)}, {of("b", 1), of("a", 1), of("c", 1)},
		append(long(api.MaxNames-1), of("a", 1)),
	} {
		among(t, made(1, 1, 1, totals...), api.ErrTwice)
	}
}

func TestR1Order(t *testing.T) {
	for _, l := range [][]api.Slip{
		{made(1, 1, 1), made(1, 1, 1)}, {made(1, 1, 1), made(1, 2, 2)}, {made(2, 1, 1), made(1, 2, 2)}, {gone(made(2, 1, 1)), gone(made(2, 2, 2))}, {made(1, 1, 1), made(3, 1, 1), made(2, 1, 1)}, {made(2, 1, 1), made(1, 1, 1), made(3, 1, 1)},
		append(row(api.MaxSlips-1), made(1, 1, 1)), append(row(api.MaxSlips-1), made(api.MaxSlips-1, 1, 1)),
	} {
		refused(t, l, api.ErrState)
	}
}

// TestR1WhichError: of several the one that is named first, slip by slip.
func TestR1WhichError(t *testing.T) {
	noNumber, many, noName, noMoney, twice := made(0, 1, 1), made(1, 1, 1, long(api.MaxNames+1)...), made(1, 1, 1, of("A", 1)), made(1, 1, 1, of("a", 0)), made(1, 1, 1, of("a", 1), of("a", 1))
	for _, c := range []struct {
		s    api.Slip
		want api.Errno
	}{{noNumber, api.ErrRange}, {many, api.ErrMany}, {noName, api.ErrForm}, {noMoney, api.ErrRange}, {twice, api.ErrTwice}} {
		for _, other := range []api.Slip{noNumber, many, noName, noMoney, twice} {
			refused(t, []api.Slip{c.s, other}, c.want)
		}
		refused(t, []api.Slip{made(9, 1, 1), made(5, 1, 1), c.s}, c.want)
		refused(t, []api.Slip{made(9, 1, 1), c.s, made(5, 1, 1)}, c.want)
	}
}

// spoil makes something wrong, perhaps, or more than one thing.
func spoil(d *draw, l []api.Slip) {
	for range d.below(3) {
		s := &l[d.below(len(l))]
		none := noNumbers()[d.below(5)]
		switch d.below(6) {
		case 0:
			s.Number = none
		case 1:
			s.Person, s.Run = none, 1
		case 2:
			s.Run = none
		case 3:
			s.Number = 1 + d.below(9)
		case 4:
			s.Totals = slices.Repeat(s.Totals, 1+d.below(20))
		}
		if len(s.Totals) == 0 {
			continue
		}
		a := &s.Totals[d.below(len(s.Totals))]
		switch d.below(6) {
		case 0:
			a.Name = noNames()[d.below(len(noNames()))]
		case 1:
			a.Name = fewNames()[d.below(5)]
		case 2:
			a.Money = noMoneys()[d.below(5)]
		}
	}
}

func TestR1AsAsked(t *testing.T) {
	var d draw
	said := map[api.Errno]int{}
	for n := range 20000 {
		l := drawSlips(&d, 1+n%6, 3, 5)
		spoil(&d, l)
		want := sayOfSlips(l)
		said[want]++
		checkIs(t, l, want)
	}
	for _, err := range []api.Errno{api.OK, api.ErrForm, api.ErrMany, api.ErrRange, api.ErrState, api.ErrTwice} {
		if said[err] < 100 {
			t.Errorf("%d was told %d times alone", err, said[err])
		}
	}
}
