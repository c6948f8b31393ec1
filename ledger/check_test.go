package ledger

import (
	"slices"
	"testing"

	"paycycle/api"
)

func TestQ1Right(t *testing.T) {
	full := row(api.MaxEntries)
	for i := range full {
		full[i] = wide(api.MaxDay, api.MaxPostings)
	}
	for _, j := range [][]api.Entry{
		nil, {}, {two(0, "a", "b", 1)}, {two(api.MaxDay, "abcdefgh", "zzzzzzzz", -1)}, {two(3, "cash", "ifs", most)}, {two(3, "a", "a", 5)},
		{entry(3, to("a", most), to("a", most), to("b", -most), to("b", -most))}, {entry(3, to("a", 7), to("cash", -3), to("cash", -4))},
		{wide(0, 2)}, {wide(0, 3)}, {wide(0, api.MaxPostings)}, row(api.MaxEntries), full,
		{two(3, "a", "b", 1), two(3, "a", "b", 1)}, {two(3, "a", "b", 1), two(4, "a", "b", 1), two(4, "b", "a", 1), two(9, "a", "b", 1)},
	} {
		checkIs(t, j, api.OK)
	}
}

func TestQ1Many(t *testing.T) {
	for _, j := range [][]api.Entry{row(api.MaxEntries + 1), make([]api.Entry, api.MaxEntries+1), slices.Repeat([]api.Entry{entry(-1)}, api.MaxEntries+1), make([]api.Entry, 1<<16)} {
		refused(t, j, api.ErrMany)
	}
}

// among lays a wrong entry at the beginning of a journal, at its end, and between.
func among(t *testing.T, bad api.Entry, want api.Errno) {
	t.Helper()
	fine := two(5, "m", "n", 7)
	for _, j := range [][]api.Entry{{bad}, {bad, fine}, {fine, bad}, {fine, bad, fine}, append(row(api.MaxEntries-1), bad)} {
		refused(t, j, want)
	}
	turnIs(t, bad, api.Entry{}, want)
	postIs(t, nil, bad, nil, want)
	postIs(t, []api.Entry{fine}, bad, nil, want)
}

func TestQ1EachEntry(t *testing.T) {
	for _, day := range noDays() {
		among(t, two(day, "a", "b", 1), api.ErrRange)
		among(t, entry(day), api.ErrRange)
		among(t, two(day, "if", "b", 0), api.ErrRange)
	}
	for _, e := range []api.Entry{{}, entry(5), entry(5, to("a", 1)), entry(5, to("a", 0)), entry(5, to("if", 1)), wide(5, api.MaxPostings+1), entry(5, make([]api.Posting, api.MaxPostings+1)...), entry(5, make([]api.Posting, 1<<16)...)} {
		among(t, e, api.ErrMany)
	}
	for _, name := range noNames() {
		among(t, two(5, name, "b", 1), api.ErrForm)
		among(t, two(5, "a", name, 1), api.ErrForm)
		among(t, two(5, "a", name, 0), api.ErrForm)
		among(t, entry(5, to("a", 0), to("b", 1), to(name, 1)), api.ErrForm)
	}
	for _, m := range noMoneys() {
		among(t, entry(5, to("a", m[0]), to("b", m[1])), api.ErrRange)
		among(t, entry(5, to("c", 1), to("c", -1), to("a", m[0]), to("b", m[1])), api.ErrRange)
		among(t, entry(5, to("c", 1), to("a", m[0]), to("b", m[1])), api.ErrRange)
	}
	for _, e := range []api.Entry{
		entry(5, to("a", 5), to("b", -4)), entry(5, to("a", 5), to("b", 5)), entry(5, to("a", -1), to("a", 2)), entry(5, to("a", most), to("b", most)),
		entry(5, to("a", most), to("b", -most), to("c", 1)), entry(5, slices.Repeat([]api.Posting{to("a", most)}, api.MaxPostings)...), entry(5, slices.Repeat([]api.Posting{to("a", -most)}, api.MaxPostings)...),
	} {
		among(t, e, api.ErrState)
	}
}

func TestQ1Order(t *testing.T) {
	for _, j := range [][]api.Entry{
		{two(1, "a", "b", 1), two(0, "a", "b", 1)}, {two(1, "a", "b", 1), two(2, "a", "b", 1), two(1, "a", "b", 1)}, {two(2, "a", "b", 1), two(1, "a", "b", 1), two(2, "a", "b", 1)},
		{two(api.MaxDay, "a", "b", 1), two(api.MaxDay-1, "a", "b", 1)}, append(row(api.MaxEntries-1), two(api.MaxEntries-3, "a", "b", 1)),
	} {
		refused(t, j, api.ErrState)
	}
}

// TestQ1WhichError: of several the one that is named first, entry by entry.
func TestQ1WhichError(t *testing.T) {
	noDay, few, noName, noMoney, noSum := two(-1, "a", "b", 1), entry(5), two(5, "A", "b", 1), two(5, "a", "b", 0), entry(5, to("a", 1), to("b", 1))
	late, early := two(9, "a", "b", 1), two(5, "a", "b", 1)
	for _, c := range []struct {
		e    api.Entry
		want api.Errno
	}{{noDay, api.ErrRange}, {few, api.ErrMany}, {noName, api.ErrForm}, {noMoney, api.ErrRange}, {noSum, api.ErrState}} {
		for _, other := range []api.Entry{noDay, few, noName, noMoney, noSum} {
			refused(t, []api.Entry{c.e, other}, c.want)
		}
		refused(t, []api.Entry{late, early, c.e}, c.want)
		refused(t, []api.Entry{late, c.e, early}, c.want)
	}
}

// spoil makes something wrong, perhaps, or more than one thing.
func spoil(d *draw, j []api.Entry) {
	for range d.below(3) {
		if len(j) == 0 {
			return
		}
		e := &j[d.below(len(j))]
		if len(e.Postings) == 0 {
			continue
		}
		p := &e.Postings[d.below(len(e.Postings))]
		switch d.below(7) {
		case 0:
			e.Day = noDays()[d.below(4)]
		case 1:
			e.Day = d.below(10)
		case 2:
			e.Postings = e.Postings[:d.below(2)]
		case 3:
			p.Account = noNames()[d.below(len(noNames()))]
		case 4:
			p.Money = noMoneys()[d.below(len(noMoneys()))][0]
		case 5:
			p.Money++
		case 6:
			e.Postings = slices.Repeat(e.Postings, 4+d.below(4))
		}
	}
}

func TestQ1Q2AsAsked(t *testing.T) {
	var d draw
	said := map[api.Errno]int{}
	for n := range 20000 {
		j := drawJournal(&d, n%6, 1+n%9)
		x := drawEntry(&d, 9-d.below(3), 3)
		spoil(&d, j)
		if one := []api.Entry{x}; n%4 == 0 {
			spoil(&d, one)
			x = one[0]
		}
		err := sayOfJournal(j)
		said[err]++
		checkIs(t, j, err)
		more := append(deepCopy(j), x)
		if err == api.OK {
			err = sayOfJournal(more)
		}
		if err != api.OK {
			more = nil
		}
		postIs(t, j, x, more, err)
	}
	for _, err := range []api.Errno{api.OK, api.ErrForm, api.ErrMany, api.ErrRange, api.ErrState} {
		if said[err] < 100 {
			t.Errorf("%d was told %d times alone", err, said[err])
		}
	}
}
