package rules

import (
	"slices"
	"strings"
	"testing"

	"paycycle/api"
)

func printIs(t *testing.T, l []api.Line, want string) {
	t.Helper()
	if got, err := Print(l); got != want || err != api.OK {
		t.Errorf("Print(%v) = %q, %d; want %q", l, got, err, want)
	}
}

func TestF3Written(t *testing.T) {
	a, b, one := named("a"), named("b"), number(100)
	printIs(t, nil, "")
	for want, e := range map[string]api.Expr{
		"1.00 + ( 2.00 * 3 )":           plus(one, times(number(200), 3)),
		"0.00":                          number(0),
		"0.07":                          number(7),
		"12.50":                         number(1250),
		"10000000000.00":                number(api.MaxMoney),
		"year a":                        yearOf("a"),
		"0.00 % of a":                   rate(0, a),
		"2.50 % of 10000.00 % of a":     rate(250, rate(api.MaxRate, a)),
		"table t of a":                  tableOf("t", a),
		"- - a":                         minus(minus(a)),
		"a + b":                         plus(a, b),
		"( a - b ) - ( a - b )":         less(less(a, b), less(a, b)),
		"( ( a / 1 ) * 1000000 ) / 7":   over(times(over(a, 1), api.MaxRate), 7),
		"min ( a , max ( b , 1.00 ) )":  of(api.ExprMin, a, of(api.ExprMax, b, one)),
		"if a < b then 1.00 else 1.00":  choice(api.TestLess, a, b, one, one),
		"if a <= b then 1.00 else 1.00": choice(api.TestUpto, a, b, one, one),
		"if a = b then 1.00 else 1.00":  choice(api.TestEqual, a, b, one, one),
	} {
		printIs(t, letA(e), "let a = "+want+" ;\n")
	}
	printIs(t, []api.Line{{Kind: api.LineEarn, Name: "a", Expr: one}, {Kind: api.LineTake, Name: "b", Expr: one}, {Kind: api.LineTax, Name: "c", Expr: one}, {Kind: api.LineLet, Name: "d", Expr: one}},
		"earn a = 1.00 ;\ntake b = 1.00 ;\ntax c = 1.00 ;\nlet d = 1.00 ;\n")
}

// slots: each place at which an expression may stand, what is printed around it there, and whether some of them stand in brackets.
func slots(e api.Expr) []struct {
	whole    api.Expr
	text     string
	brackets bool
} {
	a := named("a")
	return []struct {
		whole    api.Expr
		text     string
		brackets bool
	}{
		{e, "?", false},
		{rate(100, e), "1.00 % of ?", true}, {tableOf("t", e), "table t of ?", true}, {minus(e), "- ?", true},
		{plus(e, a), "? + a", true}, {plus(a, e), "a + ?", true}, {less(e, a), "? - a", true}, {less(a, e), "a - ?", true},
		{times(e, 2), "? * 2", true}, {over(e, 2), "? / 2", true},
		{of(api.ExprMin, e, a), "min ( ? , a )", false}, {of(api.ExprMin, a, e), "min ( a , ? )", false},
		{of(api.ExprMax, e, a), "max ( ? , a )", false}, {of(api.ExprMax, a, e), "max ( a , ? )", false},
		{choice(1, e, a, a, a), "if ? < a then a else a", true}, {choice(1, a, e, a, a), "if a < ? then a else a", true},
		{choice(1, a, a, e, a), "if a < a then ? else a", false}, {choice(1, a, a, a, e), "if a < a then a else ?", false},
	}
}

func TestF3Brackets(t *testing.T) {
	a := named("a")
	for _, c := range []struct {
		e        api.Expr
		text     string
		brackets bool
	}{
		{number(250), "2.50", false}, {a, "a", false}, {yearOf("a"), "year a", false}, {rate(1, a), "0.01 % of a", false}, {tableOf("t", a), "table t of a", false}, {minus(a), "- a", false},
		{plus(a, a), "a + a", true}, {less(a, a), "a - a", true}, {times(a, 7), "a * 7", true}, {over(a, 7), "a / 7", true},
		{of(api.ExprMin, a, a), "min ( a , a )", false}, {of(api.ExprMax, a, a), "max ( a , a )", false}, {choice(3, a, a, a, a), "if a = a then a else a", true},
	} {
		for _, slot := range slots(c.e) {
			inner := c.text
			if c.brackets && slot.brackets {
				inner = "( " + inner + " )"
			}
			text := "let a = " + strings.Replace(slot.text, "?", inner, 1) + " ;\n"
			printIs(t, letA(slot.whole), text)
			isParsed(t, text, letA(slot.whole))
		}
	}
}

// fullLines: as many lines as there may be, with so many letters more in their names than they need.
func fullLines(letters int) []api.Line {
	e := named("a")
	for range 11 {
		e = plus(e, named("a"))
	}
	lines := slices.Repeat(letA(e), api.MaxLines)
	for i := range lines {
		more := min(letters, 7)
		letters -= more
		lines[i].Name = strings.Repeat("a", 1+more)
	}
	return lines
}

func TestF3Bytes(t *testing.T) {
	bare, err := Print(fullLines(0))
	missing := api.MaxRules - len(bare)
	if err != api.OK || missing < 1 || missing >= 7*api.MaxLines {
		t.Fatalf("%d bytes, %d: no good beginning", len(bare), err)
	}
	for more := range missing + 1 {
		text, err := Print(fullLines(more))
		if len(text) != len(bare)+more || err != api.OK {
			t.Errorf("with %d letters more: %d bytes, %d", more, len(text), err)
		}
		isParsed(t, text, fullLines(more))
	}
	if text, err := Print(fullLines(missing + 1)); text != "" || err != api.ErrMany {
		t.Errorf("a byte too many: %q, %d", text, err)
	}
	if text, err := Print(letA(evenSum(api.MaxParts - 1))); text != "" || err != api.ErrMany {
		t.Errorf("as many expressions as there may be: %q, %d", text, err)
	}
}

// A text that is parsed may be too long when it is printed: then that is told.
func TestF3PrintedTooLong(t *testing.T) {
	text := strings.Repeat("earn a=1+1+1+1+1+1+1+1+1+1+1+1+1+1+1;", api.MaxLines)
	l, fault := Parse(text)
	if fault != (api.Fault{}) {
		t.Fatalf("Parse: %v", fault)
	}
	if printed, err := Print(l); printed != "" || err != api.ErrMany {
		t.Errorf("Print: %d bytes, %d", len(printed), err)
	}
}

// printedAsItWas: what Check lets pass is printed, unless it is too long, parsed as it was, and printed the same again.
func printedAsItWas(t *testing.T, l []api.Line) {
	t.Helper()
	if err := Check(l); err != api.OK {
		t.Fatalf("Check(%v) = %d", l, err)
	}
	text, err := Print(l)
	if err == api.ErrMany && text == "" {
		return
	}
	again, fault := Parse(text)
	if err != api.OK || fault != (api.Fault{}) || !sameLines(again, l) {
		t.Fatalf("%v is printed as %q, %d, and parsed as %v, %v", l, text, err, again, fault)
	}
	if second, err := Print(again); second != text || err != api.OK {
		t.Fatalf("%q is printed as %q, %d the second time", text, second, err)
	}
	for _, line := range strings.SplitAfter(text, "\n") {
		if strings.Contains(line, "  ") || line != "" && !strings.HasSuffix(line, " ;\n") {
			t.Fatalf("the line %q is printed", line)
		}
	}
}

func drawExpr(d *draw, deep int) api.Expr {
	kinds := right()
	if deep == 1 {
		kinds = kinds[:3]
	}
	e := copyExpr(kinds[d.below(len(kinds))])
	for i := range e.Kids {
		e.Kids[i] = drawExpr(d, deep-1)
	}
	switch e.Kind {
	case api.ExprNumber:
		e.Number = []int{0, 1, 99, 100, 12345, api.MaxMoney}[d.below(6)]
	case api.ExprRate:
		e.Number = []int{0, 1, 250, 10000, api.MaxRate}[d.below(5)]
	case api.ExprTimes, api.ExprOver:
		e.Number = []int{1, 2, 100, api.MaxRate}[d.below(4)]
	case api.ExprIf:
		e.Number = 1 + d.below(3)
	}
	return e
}

func TestF4WhatIsPrintedIsParsedAsItWas(t *testing.T) {
	d := draw(7)
	printed := 0
	for range 20000 {
		var lines []api.Line
		for range d.below(4) {
			lines = append(lines, api.Line{Kind: 1 + d.below(4), Name: []string{"a", "bb", "abcdefgh"}[d.below(3)], Expr: drawExpr(&d, 1+d.below(6))})
		}
		if Check(lines) != api.OK {
			continue
		}
		printed++
		printedAsItWas(t, lines)
	}
	if printed < 19000 {
		t.Errorf("only %d of the lines that were drawn may be printed", printed)
	}
}

func TestF4WhatIsParsedIsPrintedAndTheSame(t *testing.T) {
	d := draw(8)
	r := &rulesOf{draw: &d}
	for range 20000 {
		r.lines()
		s, _ := r.spread()
		if l, fault := Parse(s); fault.Err == api.OK {
			printedAsItWas(t, l)
		}
	}
	for _, s := range deepTexts(api.MaxDeep) {
		l, _ := Parse("let a = " + s + ";")
		printedAsItWas(t, l)
	}
}
