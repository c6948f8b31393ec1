package code

import (
	"slices"
	"testing"

	"paycycle/api"
	"paycycle/bind"
	"paycycle/rules"
	"paycycle/value"
)

// madeIs makes a program of lines, and holds what it comes to against what the lines come to.
func madeIs(t *testing.T, l []api.Line, k api.Known) {
	t.Helper()
	ops, err := Make(l, k)
	if _, want := bind.Lines(l, k); err != want || want != api.OK && len(ops) > 0 {
		t.Errorf("Make(%.300v) = %v, %d; want %d", l, ops, err, want)
	}
	if err != api.OK {
		return
	}
	if len(ops) > api.MaxOps {
		t.Errorf("Make(%.300v) has %d steps", l, len(ops))
	}
	if most, err := Check(ops, len(l), k); most > api.MaxDeep || err != api.OK {
		t.Errorf("Check of what Make(%.300v) = %.300v has made: %d, %d", l, ops, most, err)
	}
	want, _, wantErr := value.Lines(l, k)
	if got, _, err := Run(ops, len(l), k); !slices.Equal(got, want) || err != wantErr {
		t.Errorf("%.300v, made as %.300v, comes to %v, %d; want %v, %d", l, ops, got, err, want, wantErr)
	}
}

func TestJ1Written(t *testing.T) {
	for _, text := range []string{
		"", "let a = 5;", "let a = pay; let b = a; let c = b + a;", "let a = 10; earn b = a - 2.50 % of a;",
		"let a = year a; let b = year b; let c = year d; let d = year z + 0.01; let z = 1;",
		"let a = table t of pay; let b = table all of a; let t = table t of b;",
		"let a = pay - loss; let b = loss - pay; let c = - a; let d = 7 / 2; let e = 7 * 3; let f = 7 - 3 - 2;",
		"let a = min(pay, loss); let b = max(pay, loss); let c = min(loss, pay); let d = max(loss, pay);",
		"let a = if pay < loss then 1 else 2; let b = if pay <= pay then 3 else 4; let c = if pay = loss then 5 else 6; let d = a + b + c;",
		"let a = if 1 < 2 then if 2 < 1 then 3 else if 1 = 1 then 4 else 5 else if 1 < 2 then 6 else 7;",
		"let a = 1 + (if 1 < 2 then 3 else 4) * 2 - max(if 2 < 1 then most * 2 else 5, 6);",
		"let a = if (if 1 < 2 then 3 else 4) < (if 2 < 1 then 5 else 6) then 1 else 2;",
		"let a = most + 0.01;", "let a = 1; let b = most * 2; let c = none;", "let a = 1; let b = most * 2;", "let a = if 1 < 2 then most * 2 else 1;", "let a = if 2 < 1 then most * 2 else 1;",
		"let a = none;", "let a = year none;", "let a = table none of 1;", "let a = 1; let a = 2;", "let pay = 1;",
	} {
		madeIs(t, parsed(t, text), house())
	}
	madeIs(t, parsed(t, "let a = year a;"), api.Known{})
	madeIs(t, nil, api.Known{})
}

func TestJ1Errors(t *testing.T) {
	right := parsed(t, "let a = 1;")
	for _, l := range [][]api.Line{append(right, api.Line{}), append(right, let("if", number(1))), append(right, let("b", number(-1))), make([]api.Line, api.MaxLines+1)} {
		madeIs(t, l, house())
	}
	for _, k := range []api.Known{{Inputs: make([]api.Amount, 31)}, {Inputs: make([]api.Amount, 1)}, {Years: []api.Amount{{Name: "a", Money: api.MaxMoney + 1}}}, {Tables: []api.Table{{Name: "a"}}}, {Years: []api.Amount{{Name: "a"}, {Name: "a"}}}} {
		madeIs(t, right, k)
		madeIs(t, nil, k)
	}
}

// TestJ3Drawn: the machine comes to what the lines come to.
func TestJ3Drawn(t *testing.T) {
	d := draw(11)
	for range 40000 {
		madeIs(t, drawLines(&d, 6, 4), house())
	}
}

// nested: an expression of a depth, with the next one as the Kid at a place.
func nested(kind, num, kids, place, deep int) api.Expr {
	e := number(1)
	for range deep - 1 {
		all := slices.Repeat([]api.Expr{number(2)}, kids)
		all[place] = e
		e = of(kind, num, all...)
	}
	return e
}

// TestJ3Deep: what is as deep as may be, whichever Kid is so, has no more than MaxDeep numbers on one another.
func TestJ3Deep(t *testing.T) {
	for kind, kids := range map[int]int{api.ExprMinus: 1, api.ExprTimes: 1, api.ExprOver: 1, api.ExprPlus: 2, api.ExprLess: 2, api.ExprMin: 2, api.ExprMax: 2, api.ExprIf: 4} {
		num := 0
		if kind == api.ExprTimes || kind == api.ExprOver || kind == api.ExprIf {
			num = 1
		}
		for place := range kids {
			e := nested(kind, num, kids, place, api.MaxDeep)
			if err := rules.Check([]api.Line{let("a", e)}); err != api.OK {
				t.Fatalf("%v: %d", e, err)
			}
			madeIs(t, []api.Line{let("a", e)}, house())
			madeIs(t, []api.Line{let("a", e), let("b", e)}, house())
		}
	}
}

// balanced: a choice among choices, all of one depth.
func balanced(deep int) api.Expr {
	if deep == 1 {
		return named("pay")
	}
	kid := balanced(deep - 1)
	return of(api.ExprIf, api.TestUpto, kid, kid, kid, kid)
}

// TestJ1Most: the most lines, and as many choices as MaxParts has room for, have MaxOps steps at most.
func TestJ1Most(t *testing.T) {
	var many, chosen, chained []api.Line
	for i := range api.MaxLines {
		many = append(many, let(nameOf(i), named("pay")))
		chosen = append(chosen, let(nameOf(i), balanced(4))) // 85 each
		chained = append(chained, let(nameOf(i), nested(api.ExprIf, 1, 4, 3, 20)))
	}
	big := let("big", balanced(6)) // 1365 each
	for _, l := range [][]api.Line{many, chosen, chained, {big, let("c", balanced(6)), let("d", balanced(5)), let("e", balanced(5)), let("f", balanced(5)), let("g", balanced(4)), let("h", balanced(4)), let("i", balanced(3))}} {
		if err := rules.Check(l); err != api.OK {
			t.Fatalf("%d lines: %d", len(l), err)
		}
		madeIs(t, l, house())
	}
}

// TestJ1Alike: Make answers the same each time.
func TestJ1Alike(t *testing.T) {
	d := draw(17)
	for range 500 {
		l := drawLines(&d, 6, 4)
		first, _ := Make(l, house())
		again, _ := Make(l, house())
		if !slices.Equal(first, again) {
			t.Errorf("Make(%v) = %v, and then %v", l, first, again)
		}
	}
}

// FuzzMake: whatever is parsed, the machine comes to the same.
func FuzzMake(f *testing.F) {
	f.Add("let a = 10; earn b = a - 2.50 % of a;", 5)
	f.Add("let a = if pay < most then table t of pay / 3 else most * 2; tax b = min(a, year a) * 1000000;", -7)
	f.Fuzz(func(t *testing.T, s string, pay int) {
		l, fault := rules.Parse(s)
		if fault != (api.Fault{}) {
			return
		}
		k := house()
		k.Inputs[2].Money = pay
		madeIs(t, l, k)
	})
}
