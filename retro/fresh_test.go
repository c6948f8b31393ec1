package retro

import (
	"math"
	"slices"
	"testing"

	"paycycle/api"
)

func TestN2Written(t *testing.T) {
	pay := input("pay", row(0, 0, 300), row(40, 10, 500), row(370, 20, 100), gone(60, 30))
	p := monthly(parsed(t, "earn a = pay; take b = min(50 % of pay, 10 - year b);"), pay)
	freshIs(t, p, 0, 0, 0, [][]int{{300, 150}}, api.OK)
	freshIs(t, p, 4, 7, 0, [][]int{{300, 150}, {300, 150}, {300, 150}, {300, 150}}, api.OK)
	freshIs(t, p, 0, 7, 0, [][]int{{300, 150}, {300, 150}, {300, 150}, {300, 150}, {300, 150}, {300, 150}, {300, 100}, {300, 0}}, api.OK)
	freshIs(t, p, 1, 3, 9, [][]int{{300, 150}, {300, 150}, {300, 150}}, api.OK)
	freshIs(t, p, 1, 3, 10, [][]int{{300, 150}, {500, 250}, {500, 250}}, api.OK)
	freshIs(t, p, 11, 14, 20, [][]int{{500, 250}, {500, 250}, {100, 50}, {100, 50}}, api.OK)
	freshIs(t, p, 1, 3, 30, [][]int{{300, 150}, {0, 0}, {0, 0}}, api.OK)
	freshIs(t, monthly(nil), 2, 4, 0, make([][]int, 3), api.OK)
	freshIs(t, monthly(parsed(t, "earn a = pay;"), input("pay", row(0, 1, 9))), 0, 1, 0, [][]int{{0}, {0}}, api.OK)
	table := monthly(parsed(t, "earn wage = pay; tax due = table t of year wage;"), pay)
	table.Tables = []api.Table{{Name: "t", Brackets: []api.Bracket{{Rate: 1000}, {From: 400, Rate: 5000}}}}
	freshIs(t, table, 0, 2, 0, [][]int{{300, 0}, {300, 30}, {300, 140}}, api.OK)
}

// A row that begins on a period's second day is of the next one; one that begins on its first day is of it.
func TestN2InputsOfTheFirstDay(t *testing.T) {
	l := parsed(t, "earn a = pay;")
	for _, c := range []struct{ from, first int }{{30, 1}, {31, 1}, {32, 2}, {59, 2}, {60, 2}, {61, 3}} {
		for k := range 5 {
			want := 0
			if k >= c.first {
				want = 7
			}
			freshIs(t, monthly(l, input("pay", row(c.from, 0, 7))), k, k, 0, [][]int{{want}}, api.OK)
		}
	}
}

// Day 366 is the first one of 2001: a period is of the year in which it begins.
func TestN2YearsBeginAnew(t *testing.T) {
	l := parsed(t, "let one = 1; let ahead = year one;")
	counts := func(ahead ...int) [][]int {
		var all [][]int
		for _, n := range ahead {
			all = append(all, []int{100, n * 100})
		}
		return all
	}
	freshIs(t, monthly(l), 0, 13, 0, counts(0, 1, 2, 3, 4, 5, 6, 7, 8, 9, 10, 11, 0, 1), api.OK)
	freshIs(t, monthly(l), 10, 14, 0, counts(0, 1, 0, 1, 2), api.OK)
	freshIs(t, weekly(351, l), 0, 4, 0, counts(0, 1, 2, 0, 1), api.OK) // 365 is the last day of 2000
	freshIs(t, weekly(352, l), 0, 4, 0, counts(0, 1, 0, 1, 2), api.OK) // 366
	freshIs(t, weekly(353, l), 0, 4, 0, counts(0, 1, 0, 1, 2), api.OK)
	half := api.Plan{Schedule: api.Schedule{Kind: api.ScheduleHalf, Anchor: 350}, Lines: l}
	freshIs(t, half, 0, 3, 0, counts(0, 0, 1, 2), api.OK)
	two := api.Plan{Schedule: api.Schedule{Kind: api.ScheduleTwo, Anchor: 337}, Lines: l}
	freshIs(t, two, 0, 4, 0, counts(0, 1, 2, 0, 1), api.OK)
	years := weekly(0, parsed(t, "let one = 1; let all = year one + year all;"))
	freshIs(t, years, 51, 55, 0, [][]int{{100, 0}, {100, 100}, {100, 0}, {100, 100}, {100, 300}}, api.OK)
}

// Lines need not stand in the order of their names, and years are known of those behind, too.
func TestN2YearsOfAllLines(t *testing.T) {
	l := parsed(t, "let z = year a; let m = 3; let a = year m - year z; let b = year b + 1;")
	freshIs(t, monthly(l), 0, 3, 0, [][]int{{0, 300, 0, 100}, {0, 300, 300, 200}, {300, 300, 600, 400}, {900, 300, 600, 800}}, api.OK)
	var many []api.Line
	for i := range api.MaxNames {
		name := letters(api.MaxNames - 1 - i)
		many = append(many, api.Line{Kind: api.LineLet, Name: name, Expr: api.Expr{Kind: api.ExprPlus, Kids: []api.Expr{{Kind: api.ExprNumber, Number: i + 1}, {Kind: api.ExprYear, Name: name}}}})
	}
	got, err := Fresh(monthly(many), 0, 4, 0)
	if err != api.OK || len(got) != 5 {
		t.Fatalf("of many lines: %v, %d", got, err)
	}
	for k, values := range got {
		for i, n := range values {
			if want := (i + 1) << k; n != want { // each period as much as all ahead of it, and once more
				t.Errorf("period %d, line %d: %d; want %d", k, i, n, want)
			}
		}
	}
}

func TestN2Slowly(t *testing.T) {
	var d draw
	for range 400 {
		p := drawPlan(t, &d)
		from := d.below(60)
		to := from + d.below(40)
		seen := d.below(20)
		want, wantErr := slowly(p, from, to, seen)
		freshIs(t, p, from, to, seen, want, wantErr)
	}
}

func TestN2WhichNumbers(t *testing.T) {
	const first, last = math.MinInt, math.MaxInt
	l := parsed(t, "let a = 1;")
	months := monthly(l)
	weeks := weekly(0, l)
	for _, c := range []struct {
		p              api.Plan
		from, to, seen int
		want           api.Errno
	}{
		{months, 0, api.MaxFresh, 0, api.ErrMany}, {months, 0, last, 0, api.ErrMany}, {months, 5, 5 + api.MaxFresh, api.MaxDay, api.ErrMany}, {months, 1, last, 0, api.ErrMany},
		{months, 4990, 4990 + api.MaxFresh, 0, api.ErrMany}, {months, last - api.MaxFresh, last, 0, api.ErrMany}, {months, 2399, 2459, 0, api.ErrMany},
		{months, 0, 0, -1, api.ErrRange}, {months, 0, 0, api.MaxDay + 1, api.ErrRange}, {months, 0, 0, first, api.ErrRange}, {months, 0, last, last, api.ErrRange}, {months, 0, api.MaxFresh, -1, api.ErrRange},
		{months, -1, 0, 0, api.ErrRange}, {months, first, last, 0, api.ErrRange}, {months, -1, last, 0, api.ErrRange}, {months, first, first, 0, api.ErrRange}, {months, -1, api.MaxFresh, 0, api.ErrRange}, {months, -9, -3, 0, api.ErrRange},
		{months, 1, 0, 0, api.ErrRange}, {months, last, 0, 0, api.ErrRange}, {months, last, first, 0, api.ErrRange}, {months, 200, 100, 0, api.ErrRange},
		{months, 2400, 2400, 0, api.ErrRange}, {months, 2341, 2400, 0, api.ErrRange}, {months, 2399, 2400, 0, api.ErrRange}, {months, last, last, 0, api.ErrRange}, {months, last - api.MaxFresh + 1, last, 0, api.ErrRange}, {months, 3000, 3059, 0, api.ErrRange},
		{weeks, 5000, 5000, 0, api.ErrRange}, {weeks, 4999, 5000, 0, api.ErrRange}, {weeks, 4941, 5000, 0, api.ErrRange}, {weekly(api.MaxDay-5, l), 0, 0, 0, api.ErrRange},
	} {
		freshIs(t, c.p, c.from, c.to, c.seen, nil, c.want)
		deltaIs(t, c.p, c.from, c.to, c.seen, 0, nil, c.want)
	}
	for _, c := range []struct {
		p              api.Plan
		from, to, seen int
	}{
		{months, 0, api.MaxFresh - 1, 0}, {months, 7, 7 + api.MaxFresh - 1, api.MaxDay}, {months, 2340, 2399, 0}, {months, 2399, 2399, 0}, {weeks, 4940, 4999, 0}, {weekly(api.MaxDay-6, l), 0, 0, 0},
	} {
		freshIs(t, c.p, c.from, c.to, c.seen, slices.Repeat([][]int{{100}}, c.to-c.from+1), api.OK)
		deltaIs(t, c.p, c.from, c.to, c.seen, 0, []int{0}, api.OK)
	}
}

func TestN2LinesThatAreNoMoney(t *testing.T) {
	const most = api.MaxMoney
	double := parsed(t, "let a = 1; let b = pay * 2;")
	p := monthly(double, input("pay", row(0, 0, 5), row(90, 0, most/2), row(120, 3, most/2+1), row(150, 4, 5)))
	freshIs(t, p, 2, 3, 9, [][]int{{100, 10}, {100, most}}, api.OK)
	freshIs(t, p, 2, 4, 2, nil, api.ErrRange) // the year came to too much
	freshIs(t, p, 4, 4, 2, [][]int{{100, most}}, api.OK)
	freshIs(t, p, 4, 4, 3, nil, api.ErrRange)
	freshIs(t, p, 5, 5, 3, nil, api.ErrRange)
	freshIs(t, p, 5, 5, 4, [][]int{{100, 10}}, api.OK)
	freshIs(t, p, 4, 5, 4, nil, api.ErrRange)
	freshIs(t, monthly(parsed(t, "let a = if year b < 5 then 1 else 10000000000 + 1; let b = 3;")), 0, 1, 0, [][]int{{100, 300}, {100, 300}}, api.OK)
	freshIs(t, monthly(parsed(t, "let a = if year b < 5 then 1 else 10000000000 + 1; let b = 3;")), 0, 2, 0, nil, api.ErrRange)
}

// Years are looked at where a period begins: what all lines came to ahead of it, asked for or not.
func TestN2YearsThatAreNoMoney(t *testing.T) {
	const most = api.MaxMoney
	for _, sign := range []int{1, -1} {
		p := monthly(parsed(t, "let b = 1; let a = pay;"), input("pay", row(0, 0, sign*most)))
		one := []int{100, sign * most}
		freshIs(t, p, 0, 1, 0, [][]int{one, one}, api.OK)
		freshIs(t, p, 0, 2, 0, nil, api.ErrRange)
		freshIs(t, p, 10, 13, 0, [][]int{one, one, one, one}, api.OK)
		freshIs(t, p, 9, 12, 0, nil, api.ErrRange)
		freshIs(t, p, 10, 14, 0, nil, api.ErrRange)
		back := monthly(p.Lines, input("pay", row(0, 0, sign*most), row(31, 0, -sign*most), row(60, 0, sign)))
		freshIs(t, back, 0, 2, 0, [][]int{one, {100, -sign * most}, {100, sign}}, api.OK)
		edge := monthly(p.Lines, input("pay", row(0, 0, sign*(most-1)), row(31, 0, sign), row(60, 0, 0)))
		freshIs(t, edge, 0, 3, 0, [][]int{{100, sign * (most - 1)}, {100, sign}, {100, 0}, {100, 0}}, api.OK)
		above := monthly(p.Lines, input("pay", row(0, 0, sign*(most-1)), row(31, 0, 2*sign), row(60, 0, 0)))
		freshIs(t, above, 0, 1, 0, [][]int{{100, sign * (most - 1)}, {100, 2 * sign}}, api.OK)
		freshIs(t, above, 0, 2, 0, nil, api.ErrRange)
	}
}
