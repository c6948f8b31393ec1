package rules

import (
	"math"
	"slices"
	"strings"
	"testing"

	"paycycle/api"
)

func checkIs(t *testing.T, l []api.Line, want api.Errno) {
	t.Helper()
	if got := Check(l); got != want {
		t.Errorf("Check(%.200v) = %d; want %d", l, got, want)
	}
	text, err := Print(l)
	switch {
	case want != api.OK && (text != "" || err != want):
		t.Errorf("Print(%.200v) = %q, %d; want %d", l, text, err, want)
	case want == api.OK && err != api.OK && err != api.ErrMany:
		t.Errorf("Print(%.200v) = %q, %d", l, text, err)
	}
}

// exprIs asks of an expression as a line's own, behind a line that is right, and inside of others.
func exprIs(t *testing.T, e api.Expr, want api.Errno) {
	t.Helper()
	one := number(1)
	for _, x := range []api.Expr{e, minus(e), plus(one, e), choice(api.TestEqual, one, one, one, minus(e)), rate(1, tableOf("t", times(e, 1)))} {
		checkIs(t, letA(x), want)
		checkIs(t, []api.Line{{Kind: api.LineTax, Name: "b", Expr: one}, {Kind: api.LineEarn, Name: "c", Expr: x}}, want)
	}
}

// right: an expression of each kind.
func right() []api.Expr {
	one := number(1)
	return []api.Expr{
		one, named("a"), yearOf("a"), rate(1, one), tableOf("a", one), minus(one), plus(one, one), less(one, one), times(one, 1), over(one, 1),
		of(api.ExprMin, one, one), of(api.ExprMax, one, one), choice(1, one, one, one, one),
	}
}

var (
	wrongNames   = []string{"", "if", "min", "abcdefghi", "A", "a1", " a", "a ", "\xff", strings.Repeat("a", 1<<16)}
	wrongNumbers = []int{math.MinInt, -1, math.MaxInt}
)

func TestF2Kinds(t *testing.T) {
	for i, e := range right() {
		if e.Kind != i+1 {
			t.Fatalf("%v stands at the place of kind %d", e, i+1)
		}
		exprIs(t, e, api.OK)
	}
	for _, kind := range []int{0, -1, 14, 99, math.MaxInt, math.MinInt} {
		exprIs(t, api.Expr{Kind: kind}, api.ErrKind)
		exprIs(t, api.Expr{Kind: kind, Number: -1, Name: "?", Kids: []api.Expr{{}, {}}}, api.ErrKind)
	}
}

func TestF2Kids(t *testing.T) {
	for _, e := range right() {
		more := copyExpr(e)
		more.Kids = append(more.Kids, number(1))
		exprIs(t, more, api.ErrForm)
		more.Number = -1
		exprIs(t, more, api.ErrForm)
		if len(e.Kids) > 0 {
			fewer := copyExpr(e)
			fewer.Kids = fewer.Kids[1:]
			exprIs(t, fewer, api.ErrForm)
			fewer.Kids = nil
			exprIs(t, fewer, api.ErrForm)
		}
	}
}

func TestF2Names(t *testing.T) {
	asked := []int{api.ExprName, api.ExprYear, api.ExprTable}
	for _, e := range right() {
		if !slices.Contains(asked, e.Kind) {
			for _, name := range []string{"a", "if", " ", "?"} {
				e.Name = name
				exprIs(t, e, api.ErrForm)
			}
			continue
		}
		for _, name := range []string{"a", "z", "abcdefgh", "ifs"} {
			e.Name = name
			exprIs(t, e, api.OK)
		}
		for _, name := range wrongNames {
			e.Name = name
			exprIs(t, e, api.ErrForm)
		}
	}
}

func TestF2Numbers(t *testing.T) {
	ends := map[int][2]int{
		api.ExprNumber: {0, api.MaxMoney}, api.ExprRate: {0, api.MaxRate}, api.ExprTimes: {1, api.MaxRate}, api.ExprOver: {1, api.MaxRate}, api.ExprIf: {api.TestLess, api.TestEqual},
	}
	for _, e := range right() {
		least, most := ends[e.Kind][0], ends[e.Kind][1]
		for _, n := range []int{least, most} {
			e.Number = n
			exprIs(t, e, api.OK)
		}
		for _, n := range append(wrongNumbers, least-1, most+1) {
			e.Number = n
			exprIs(t, e, api.ErrRange)
		}
	}
}

func TestF2Lines(t *testing.T) {
	one := number(1)
	checkIs(t, nil, api.OK)
	checkIs(t, []api.Line{}, api.OK)
	for kind := api.LineEarn; kind <= api.LineLet; kind++ {
		checkIs(t, []api.Line{{Kind: kind, Name: "a", Expr: one}}, api.OK)
	}
	for _, kind := range []int{0, -1, 5, math.MaxInt, math.MinInt} {
		checkIs(t, []api.Line{{Kind: kind, Name: "a", Expr: one}}, api.ErrKind)
		checkIs(t, []api.Line{{Kind: kind, Name: "if", Expr: number(-1)}}, api.ErrKind)
	}
	for _, name := range wrongNames {
		checkIs(t, []api.Line{{Kind: api.LineTax, Name: name, Expr: one}}, api.ErrForm)
		checkIs(t, []api.Line{{Kind: api.LineTax, Name: name}}, api.ErrForm)
	}
	checkIs(t, slices.Repeat(letA(one), api.MaxLines), api.OK)
	checkIs(t, slices.Repeat(letA(one), api.MaxLines+1), api.ErrMany)
	checkIs(t, make([]api.Line, api.MaxLines+1), api.ErrMany)
	checkIs(t, make([]api.Line, 1<<20), api.ErrMany)
}

func TestF2WhatIsToldFirst(t *testing.T) {
	range1, form1, kind1 := number(-1), named("if"), api.Expr{}
	for _, c := range []struct {
		first, second api.Expr
		want          api.Errno
	}{
		{range1, form1, api.ErrRange}, {range1, kind1, api.ErrRange}, {form1, kind1, api.ErrForm}, {form1, range1, api.ErrForm}, {kind1, range1, api.ErrKind}, {kind1, form1, api.ErrKind},
	} {
		checkIs(t, letA(plus(c.first, c.second)), c.want)
		checkIs(t, append(letA(c.first), letA(c.second)...), c.want)
		checkIs(t, letA(plus(minus(minus(c.first)), c.second)), c.want)
		checkIs(t, letA(choice(1, c.first, number(1), c.second, number(1))), c.want)
	}
	// Each ahead of its Kids.
	checkIs(t, letA(times(kind1, 0)), api.ErrRange)
	checkIs(t, letA(tableOf("if", kind1)), api.ErrForm)
	checkIs(t, letA(api.Expr{Kind: api.ExprRate, Number: -1, Name: "a", Kids: []api.Expr{kind1}}), api.ErrForm)
	// Line by line.
	checkIs(t, []api.Line{{Kind: 1, Name: "a", Expr: range1}, {Kind: 0, Name: "a"}}, api.ErrRange)
	checkIs(t, []api.Line{{Kind: 1, Name: "", Expr: kind1}, {Kind: 0, Name: "a"}}, api.ErrForm)
	// ErrMany ahead of all of them.
	deep := number(1)
	for range api.MaxDeep {
		deep = minus(deep)
	}
	checkIs(t, append([]api.Line{{}}, letA(deep)...), api.ErrMany)
	checkIs(t, append(letA(form1), letA(deep)...), api.ErrMany)
	checkIs(t, []api.Line{{Expr: api.Expr{Kids: make([]api.Expr, api.MaxParts)}}}, api.ErrMany)
}

func TestF2Deep(t *testing.T) {
	for _, kind := range []int{api.ExprMinus, 0, 99, api.ExprNumber} {
		e := number(1)
		for range api.MaxDeep - 1 {
			e = api.Expr{Kind: kind, Kids: []api.Expr{e}}
		}
		if err := Check(letA(e)); err == api.ErrMany {
			t.Errorf("as deep as it may be, of kind %d: %d", kind, err)
		}
		checkIs(t, letA(api.Expr{Kind: kind, Kids: []api.Expr{e}}), api.ErrMany)
	}
	side := number(1)
	for range api.MaxDeep - 1 {
		side = plus(number(1), side)
	}
	checkIs(t, letA(side), api.OK)
	checkIs(t, letA(plus(number(1), side)), api.ErrMany)
	checkIs(t, letA(plus(side, number(1))), api.ErrMany)
}

// evenSum of so many expressions, an odd number, that is as flat as can be.
func evenSum(parts int) api.Expr {
	if parts == 1 {
		return number(1)
	}
	left := (parts - 1) / 2
	left -= 1 - left%2
	return plus(evenSum(left), evenSum(parts-1-left))
}

func TestF2Parts(t *testing.T) {
	checkIs(t, letA(evenSum(api.MaxParts-1)), api.OK)
	checkIs(t, letA(evenSum(api.MaxParts+1)), api.ErrMany)
	checkIs(t, letA(minus(evenSum(api.MaxParts-1))), api.OK)
	checkIs(t, append(letA(evenSum(1999)), letA(evenSum(2001))...), api.OK)
	checkIs(t, append(letA(evenSum(1999)), letA(minus(evenSum(2001)))...), api.ErrMany)
	checkIs(t, append(slices.Repeat(letA(evenSum(101)), 39), letA(evenSum(61))...), api.OK)
	checkIs(t, append(slices.Repeat(letA(evenSum(101)), 39), letA(evenSum(63))...), api.ErrMany)
	checkIs(t, letA(api.Expr{Kind: api.ExprMinus, Kids: make([]api.Expr, api.MaxParts-1)}), api.ErrForm)
	checkIs(t, letA(api.Expr{Kind: api.ExprMinus, Kids: make([]api.Expr, api.MaxParts)}), api.ErrMany)
	checkIs(t, letA(api.Expr{Kind: api.ExprMinus, Kids: make([]api.Expr, 1<<20)}), api.ErrMany)
}

// Kids may hold themselves, or one list may stand in many places: P1 asks for an end all the same.
func TestF2KidsWithoutEnd(t *testing.T) {
	round := []api.Expr{{Kind: api.ExprPlus}, {Kind: api.ExprPlus}}
	round[0].Kids, round[1].Kids = round, round
	checkIs(t, letA(round[0]), api.ErrMany)
	wide := make([]api.Expr, 1000)
	for i := range wide {
		wide[i] = api.Expr{Kind: api.ExprMinus, Kids: wide}
	}
	checkIs(t, letA(wide[7]), api.ErrMany)
	shared := number(1)
	for range api.MaxDeep - 1 {
		shared = plus(shared, shared)
	}
	checkIs(t, letA(shared), api.ErrMany)
	checkIs(t, slices.Repeat(letA(shared), api.MaxLines), api.ErrMany)
}

// P2: lines are only read, the spare room behind their lists too.
func TestLinesAreOnlyRead(t *testing.T) {
	room := []api.Expr{number(1), number(2), number(3)}
	lines := append(letA(api.Expr{Kind: api.ExprPlus, Kids: room[:2]}), letA(minus(number(4)))...)
	kept, keptRoom := copyLines(lines), slices.Clone(room)
	Check(lines[:1])
	Print(lines[:1])
	if !sameLines(lines, kept) || !slices.EqualFunc(room, keptRoom, sameExpr) {
		t.Errorf("what was handed in is %v now, with %v", lines, room)
	}
}
