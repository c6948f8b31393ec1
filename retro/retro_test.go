package retro

import (
	"math"
	"slices"
	"testing"

	"paycycle/api"
	"paycycle/period"
)

func TestN3Written(t *testing.T) {
	firstIs(t, monthly(nil, input("pay", row(31, 9, 7))), 0, 9, 1, true, api.OK)
	p := monthly(parsed(t, "earn a = pay;"), input("other", row(5, 15, 1), row(5, 16, 1)), input("pay", row(0, 0, 300), row(40, 10, 500), row(370, 20, 100), gone(60, 30)))
	for _, c := range []struct {
		was, is, want int
		some          bool
	}{
		{0, 0, 0, false}, {0, 9, 0, false}, {0, 10, 2, true}, {10, 0, 2, true}, {10, 14, 0, false}, {10, 15, 1, true}, {15, 19, 0, false}, {15, 20, 13, true}, {20, 15, 13, true},
		{20, 30, 2, true}, {16, 16, 0, false}, {0, api.MaxDay, 1, true}, {30, api.MaxDay, 0, false}, {api.MaxDay, api.MaxDay, 0, false},
	} {
		firstIs(t, p, c.was, c.is, c.want, c.some, api.OK)
	}
	firstIs(t, monthly(nil), 0, 9, 0, false, api.OK)
	firstIs(t, monthly(nil, input("pay")), 0, 9, 0, false, api.OK)
	// what lines ask for is not asked here
	firstIs(t, monthly(parsed(t, "let a = 1;"), input("pay", row(31, 9, 7))), 0, 9, 1, true, api.OK)
}

// A row that begins and is over between two first days is never asked for.
func TestN3FirstDaysAlone(t *testing.T) {
	between := []api.Row{row(0, 0, 5), row(32, 0, 6), row(60, 0, 5), row(33, 4, 8), row(59, 4, 9)}
	firstIs(t, monthly(nil, input("pay", between...)), 0, 4, 0, false, api.OK)
	firstIs(t, weekly(0, nil, input("pay", between...)), 0, 4, 5, true, api.OK)
	firstIs(t, weekly(34, nil, input("pay", between...)), 0, 4, 0, true, api.OK)
	for _, c := range []struct{ from, want int }{{0, 0}, {1, 1}, {30, 1}, {31, 1}, {32, 2}, {366, 12}, {367, 13}} {
		firstIs(t, monthly(nil, input("pay", row(c.from, 4, 8))), 0, 4, c.want, true, api.OK)
	}
	// ahead of the first period nothing is looked at
	firstIs(t, weekly(100, nil, input("pay", row(50, 4, 8), gone(99, 4))), 0, 4, 0, false, api.OK)
	firstIs(t, weekly(100, nil, input("pay", row(50, 4, 8), gone(101, 4))), 0, 4, 0, true, api.OK)
}

// One that is none is known otherwise than one of 0, though lines come to the same.
func TestN3NoneAndNought(t *testing.T) {
	l := parsed(t, "earn a = pay;")
	for _, p := range []api.Plan{monthly(l, input("pay", row(31, 9, 0))), monthly(l, input("pay", row(31, 0, 0), gone(31, 9)))} {
		firstIs(t, p, 0, 9, 1, true, api.OK)
		firstIs(t, p, 9, 0, 1, true, api.OK)
		deltaIs(t, p, 0, 5, 0, 9, []int{0}, api.OK)
	}
	firstIs(t, monthly(l, input("pay", gone(31, 9))), 0, 9, 0, false, api.OK)
	firstIs(t, monthly(l, input("pay", row(31, 0, 4), row(31, 9, 4))), 0, 9, 0, false, api.OK)
}

func TestN3LastPeriods(t *testing.T) {
	from := func(day int) api.Input { return input("pay", row(day, 9, 7)) }
	firstIs(t, monthly(nil, from(73018)), 0, 9, 2399, true, api.OK) // December 1, 2199
	firstIs(t, monthly(nil, from(73019)), 0, 9, 0, false, api.OK)
	firstIs(t, weekly(0, nil, from(7*4999)), 0, 9, 4999, true, api.OK)
	firstIs(t, weekly(0, nil, from(7*4999+1)), 0, 9, 0, false, api.OK)
	firstIs(t, weekly(72000, nil, from(73036)), 0, 9, 148, true, api.OK)
	firstIs(t, weekly(72000, nil, from(73037)), 0, 9, 0, false, api.OK) // the next one would begin at 73043, and not all of its days are days
	firstIs(t, weekly(api.MaxDay-5, nil, from(0)), 0, 9, 0, false, api.OK)
	firstIs(t, weekly(api.MaxDay-6, nil, from(0)), 0, 9, 0, true, api.OK)
}

func TestN3NoDays(t *testing.T) {
	for _, p := range []api.Plan{monthly(nil), monthly(nil, input("pay", row(31, 9, 7)))} {
		for _, n := range []int{math.MinInt, -1, api.MaxDay + 1, math.MaxInt} {
			firstIs(t, p, n, 0, 0, false, api.ErrRange)
			firstIs(t, p, 9, n, 0, false, api.ErrRange)
			firstIs(t, p, n, n, 0, false, api.ErrRange)
		}
	}
}

// slowlyFirst goes through all periods by what is held at their first days.
func slowlyFirst(p api.Plan, was, is int) (int, bool) {
	for k := range api.MaxPeriods {
		days, err := period.At(p.Schedule, k)
		if err != api.OK || days.From > 900 { // drawn rows begin ahead of this
			return 0, false
		}
		for _, in := range p.Inputs {
			a, hadOne := held(in.Rows, days.From, was)
			b, hasOne := held(in.Rows, days.From, is)
			if a != b || hadOne != hasOne {
				return k, true
			}
		}
	}
	return 0, false
}

func TestN3Slowly(t *testing.T) {
	var d draw
	for range 400 {
		p := drawPlan(t, &d)
		was, is := d.below(20), d.below(20)
		k, some := slowlyFirst(p, was, is)
		firstIs(t, p, was, is, k, some, api.OK)
	}
}

func TestN4Written(t *testing.T) {
	pay := input("pay", row(0, 0, 300), row(40, 10, 500), row(370, 20, 100), gone(60, 30))
	p := monthly(parsed(t, "earn a = pay; take b = min(50 % of pay, 10 - year b);"), pay)
	deltaIs(t, p, 0, 13, 0, 0, []int{0, 0}, api.OK)
	deltaIs(t, p, 0, 1, 0, 30, []int{0, 0}, api.OK)
	deltaIs(t, p, 2, 2, 0, 10, []int{200, 100}, api.OK)
	deltaIs(t, p, 2, 2, 10, 0, []int{-200, -100}, api.OK)
	deltaIs(t, p, 0, 13, 0, 10, []int{2400, 200}, api.OK)
	deltaIs(t, p, 0, 13, 10, 0, []int{-2400, -200}, api.OK)
	deltaIs(t, p, 0, 13, 0, 30, []int{-3500, -950}, api.OK)
	deltaIs(t, p, 11, 14, 10, 20, []int{-800, -400}, api.OK)
	deltaIs(t, monthly(nil, pay), 0, 13, 0, 30, nil, api.OK)
}

func TestN4ErrorsInOrder(t *testing.T) {
	const most = api.MaxMoney
	p := monthly(parsed(t, "let a = pay * 2;"), input("pay", row(0, 0, most), row(0, 5, 1), row(0, 9, most)))
	for _, c := range []struct {
		from, to, was, is int
		want              api.Errno
	}{
		{0, 60, 5, -1, api.ErrMany}, {0, 60, -1, 5, api.ErrRange}, {0, 60, 5, 5, api.ErrMany}, {0, 60, 0, 9, api.ErrMany},
		{0, 0, 5, -1, api.ErrRange}, {0, 0, -1, 5, api.ErrRange}, {0, 0, 5, api.MaxDay + 1, api.ErrRange}, {0, 0, math.MaxInt, 5, api.ErrRange}, {0, 0, 5, math.MinInt, api.ErrRange},
		{0, 0, 0, 5, api.ErrRange}, {0, 0, 5, 9, api.ErrRange}, {0, 0, 0, 9, api.ErrRange}, {-1, 0, 5, 5, api.ErrRange}, {1, 0, 5, 5, api.ErrRange}, {2400, 2400, 5, 5, api.ErrRange},
	} {
		deltaIs(t, p, c.from, c.to, c.was, c.is, nil, c.want)
	}
	deltaIs(t, p, 0, 0, 5, 8, []int{0}, api.OK)
}

// Only what Delta tells must be money: periods 11 and 12 are of two years, so that both may come to all there may be.
func TestN4NoMoney(t *testing.T) {
	const most = api.MaxMoney
	l := parsed(t, "let b = 1; let a = pay;")
	for _, sign := range []int{1, -1} {
		up := monthly(l, input("pay", row(0, 5, sign*most)))
		deltaIs(t, up, 11, 11, 0, 5, []int{0, sign * most}, api.OK)
		deltaIs(t, up, 11, 11, 5, 0, []int{0, -sign * most}, api.OK)
		deltaIs(t, up, 11, 12, 0, 5, nil, api.ErrRange)
		deltaIs(t, up, 11, 12, 5, 0, nil, api.ErrRange)
		deltaIs(t, up, 11, 12, 5, 5, []int{0, 0}, api.OK)
		turn := monthly(l, input("pay", row(0, 0, sign*most), row(0, 5, -sign*most)))
		deltaIs(t, turn, 11, 11, 0, 5, nil, api.ErrRange)
		less := monthly(l, input("pay", row(0, 0, sign*most), row(366, 5, sign*(most-7))))
		deltaIs(t, less, 11, 12, 0, 5, []int{0, -7 * sign}, api.OK)
		edge := monthly(l, input("pay", row(0, 5, sign*(most-1)), row(366, 5, sign)))
		deltaIs(t, edge, 11, 12, 0, 5, []int{0, sign * most}, api.OK)
		above := monthly(l, input("pay", row(0, 5, sign*(most-1)), row(366, 5, 2*sign)))
		deltaIs(t, above, 11, 12, 0, 5, nil, api.ErrRange)
		there := monthly(l, input("pay", row(335, 0, -sign*most), row(335, 5, sign*most), row(366, 5, 0), row(397, 5, -sign*most)))
		deltaIs(t, there, 11, 13, 0, 5, nil, api.ErrRange)
		back := monthly(l, input("pay", row(335, 5, sign*most), row(366, 5, sign*most), row(397, 5, -sign*most)))
		deltaIs(t, back, 11, 13, 0, 5, []int{0, sign * most}, api.OK) // on its way it is more
	}
}

func added(lists [][]int, lines int) []int {
	sums := make([]int, lines)
	for _, l := range lists {
		for i, n := range l {
			sums[i] += n
		}
	}
	return sums
}

func TestN5FreshAndDelta(t *testing.T) {
	var d draw
	for range 300 {
		p := drawPlan(t, &d)
		from := d.below(60)
		to := from + d.below(30)
		was, is := d.below(20), d.below(20)
		before, err1 := slowly(p, from, to, was)
		now, err2 := slowly(p, from, to, is)
		if err1 != api.OK || err2 != api.OK {
			t.Fatalf("drawn plans come to money: %d, %d", err1, err2)
		}
		want := added(now, len(p.Lines))
		for i, n := range added(before, len(p.Lines)) {
			want[i] -= n
		}
		deltaIs(t, p, from, to, was, is, want, api.OK)
	}
}

func TestN5NothingChangesAheadOfFirst(t *testing.T) {
	var d draw
	for range 300 {
		p := drawPlan(t, &d)
		was, is := d.below(20), d.below(20)
		k, some, _ := First(p, was, is)
		if !some {
			k = 40
		}
		if k == 0 {
			continue
		}
		from := max(0, k-api.MaxFresh)
		before, _ := Fresh(p, from, k-1, was)
		freshIs(t, p, from, k-1, is, before, api.OK)
		deltaIs(t, p, from, k-1, was, is, make([]int, len(p.Lines)), api.OK)
	}
}

func TestN5FurtherOn(t *testing.T) {
	var d draw
	for range 100 {
		p := drawPlan(t, &d)
		from := d.below(60)
		all, _ := Fresh(p, from, from+29, 9)
		for n := range all {
			freshIs(t, p, from, from+n, 9, all[:n+1], api.OK)
		}
	}
}

func TestP2InputsAreOnlyRead(t *testing.T) {
	lines := parsed(t, "let z = pay + year a; let a = table t of pay; let b = 3;")
	rows := []api.Row{row(0, 0, 300), row(40, 10, 500), row(9, 9, 9)}
	inputs := []api.Input{input("pay", rows[:2]...), input("A")}
	tables := []api.Table{{Name: "t", Brackets: []api.Bracket{{Rate: 1000}}}, {}}
	p := api.Plan{Schedule: api.Schedule{Kind: api.ScheduleMonth}, Lines: lines[:2], Tables: tables[:1], Inputs: inputs[:1]}
	first, _ := Fresh(p, 0, 5, 10)
	again, _ := Fresh(p, 0, 5, 10)
	delta, _ := Delta(p, 0, 5, 0, 10)
	First(p, 0, 10)
	if lines[0].Name != "z" || lines[1].Name != "a" || lines[2].Name != "b" {
		t.Errorf("lines are %v now", lines)
	}
	if !slices.Equal(rows, []api.Row{row(0, 0, 300), row(40, 10, 500), row(9, 9, 9)}) || inputs[0].Name != "pay" || inputs[1].Name != "A" {
		t.Errorf("inputs are %v now", inputs)
	}
	if tables[0].Name != "t" || tables[1].Name != "" || tables[0].Brackets[0] != (api.Bracket{Rate: 1000}) {
		t.Errorf("tables are %v now", tables)
	}
	for k := range first { // no two lists of an answer share memory, not even their spare room
		for i := range first[k][:cap(first[k])] {
			first[k][:cap(first[k])][i] = -k - 1
		}
	}
	for k := range first {
		if slices.ContainsFunc(first[k], func(n int) bool { return n != -k-1 }) {
			t.Errorf("a change of one list is seen in another: %v", first)
		}
	}
	for i := range delta {
		delta[i] = -1
	}
	freshIs(t, p, 0, 5, 10, again, api.OK)
}
