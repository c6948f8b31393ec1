package bind

import (
	"reflect"
	"slices"
	"testing"

	"paycycle/api"
	"paycycle/rules"
)

func linesAre(t *testing.T, l []api.Line, k api.Known, at int, want api.Errno) {
	t.Helper()
	if got, err := Lines(l, k); got != at || err != want {
		t.Errorf("Lines(%.300v, %.300v) = %d, %d; want %d, %d", l, k, got, err, at, want)
	}
}

// payAndTable: an input `pay`, a table `t`, and a year of `y`.
func payAndTable() api.Known {
	return knownOf([]string{"pay"}, []string{"t"}, []string{"y"})
}

// exprIs asks of an expression as it stands in others, of a line alone, and behind one that is right; a line by the name `a` is asked.
func exprIs(t *testing.T, e api.Expr, want api.Errno) {
	t.Helper()
	for _, x := range around(e) {
		linesAre(t, []api.Line{let("a", x)}, payAndTable(), 0, want)
		at := 0
		if want != api.OK {
			at = 2
		}
		linesAre(t, []api.Line{let("p", named("pay")), let("q", number(1)), let("a", x), let("r", named("a"))}, payAndTable(), at, want)
	}
}

func TestH2Right(t *testing.T) {
	for _, s := range []string{
		"", "let a = 1;", "let a = pay;", "let a = 1; let b = a; let c = a + b;", "let a = year a;", "let a = year b; let b = year a + a;",
		"let a = table t of pay; tax b = table t of (a + pay); earn c = year c; take d = if a < b then c else pay;", "let t = table t of 1; let y = t;",
	} {
		linesAre(t, parsed(t, s), payAndTable(), 0, api.OK)
	}
}

func TestH2Names(t *testing.T) {
	exprIs(t, number(1), api.OK)
	exprIs(t, named("pay"), api.OK)
	exprIs(t, named("a"), api.ErrNone) // a line is not ahead of itself
	exprIs(t, named("none"), api.ErrNone)
	exprIs(t, named("r"), api.ErrNone)
	exprIs(t, named("t"), api.ErrNone) // a table is no value,
	exprIs(t, named("y"), api.ErrNone) // nor is what the year has
	exprIs(t, named("pa"), api.ErrNone)
	exprIs(t, named("payy"), api.ErrNone)
}

func TestH2Years(t *testing.T) {
	exprIs(t, yearOf("a"), api.OK)
	exprIs(t, yearOf("pay"), api.ErrNone)
	exprIs(t, yearOf("t"), api.ErrNone)
	exprIs(t, yearOf("y"), api.ErrNone) // the year has some, but no line is by that name
	exprIs(t, yearOf("none"), api.ErrNone)
	for _, s := range []string{"let a = year b; let b = 1;", "let b = 1; let a = year b;", "let a = 1; let c = 1 + year b; let d = 1; let b = 1;"} {
		linesAre(t, parsed(t, s), api.Known{}, 0, api.OK)
	}
}

func TestH2Tables(t *testing.T) {
	exprIs(t, tableOf("t", number(1)), api.OK)
	exprIs(t, tableOf("a", number(1)), api.ErrNone)
	exprIs(t, tableOf("pay", number(1)), api.ErrNone)
	exprIs(t, tableOf("y", number(1)), api.ErrNone)
	exprIs(t, tableOf("tt", named("pay")), api.ErrNone)
	exprIs(t, tableOf("t", named("none")), api.ErrNone)
	exprIs(t, tableOf("none", named("none")), api.ErrNone)
}

func TestH2Twice(t *testing.T) {
	for _, c := range []struct {
		text string
		at   int
	}{
		{"let a = 1; let a = 1;", 1}, {"let a = 1; earn b = 1; tax a = b;", 2}, {"let pay = 1;", 0}, {"let a = 1; let pay = 1; let a = 1;", 1},
		{"let a = 1; let b = a; let b = none;", 2}, {"let pay = none;", 0}, {"let a = 1; let a = a;", 1}, {"let pay = pay;", 0},
	} {
		linesAre(t, parsed(t, c.text), payAndTable(), c.at, api.ErrTwice)
	}
}

// TestH2First: line by line, whichever error it is.
func TestH2First(t *testing.T) {
	for _, c := range []struct {
		text string
		at   int
		want api.Errno
	}{
		{"let a = none; let a = 1;", 0, api.ErrNone}, {"let a = 1; let b = none; let a = none;", 1, api.ErrNone}, {"let a = b; let b = 1;", 0, api.ErrNone},
		{"let a = 1; let b = c; let c = b;", 1, api.ErrNone}, {"let a = 1; let pay = 1; let c = none;", 1, api.ErrTwice}, {"let a = year b; let c = year none;", 0, api.ErrNone},
		{"let a = 1; let b = 1; let c = 1; let d = table none of e;", 3, api.ErrNone},
	} {
		linesAre(t, parsed(t, c.text), payAndTable(), c.at, c.want)
	}
}

// wrongLines: one for each error that Check has of lines.
func wrongLines() map[api.Errno][]api.Line {
	return map[api.Errno][]api.Line{
		api.ErrMany:  make([]api.Line, api.MaxLines+1),
		api.ErrKind:  {let("a", number(1)), {Kind: 5, Name: "b", Expr: number(1)}},
		api.ErrForm:  {let("a", number(1)), let("if", number(1))},
		api.ErrRange: {let("a", named("none")), let("b", number(-1))},
	}
}

// TestH2Ahead: what Check says of lines, and then what Known says, both with 0, ahead of names.
func TestH2Ahead(t *testing.T) {
	for want, wrong := range wrongLines() {
		linesAre(t, wrong, payAndTable(), 0, want)
		for _, l := range wrongAmounts() {
			linesAre(t, wrong, api.Known{Inputs: l}, 0, want)
		}
		linesAre(t, wrong, api.Known{Tables: make([]api.Table, api.MaxNames+1)}, 0, want)
	}
	for want, wrong := range wrongAmounts() {
		linesAre(t, parsed(t, "let a = 1; let b = none; let a = 1;"), api.Known{Inputs: wrong}, 0, want)
		linesAre(t, parsed(t, "let a = 1; let b = none; let a = 1;"), api.Known{Years: wrong}, 0, want)
	}
}

func TestH2Edges(t *testing.T) {
	var l []api.Line
	for i, name := range rising(api.MaxLines) {
		e := number(1)
		if i > 0 {
			e = named(l[i-1].Name)
		}
		l = append(l, let(name, e))
	}
	linesAre(t, l, api.Known{}, 0, api.OK)
	l[api.MaxLines-1].Expr = named("zzz")
	linesAre(t, l, api.Known{}, api.MaxLines-1, api.ErrNone)
	l[api.MaxLines-1].Name = l[0].Name
	linesAre(t, l, api.Known{}, api.MaxLines-1, api.ErrTwice)
	k := knownOf(rising(api.MaxNames), rising(api.MaxNames), nil)
	last := k.Inputs[api.MaxNames-1].Name
	linesAre(t, []api.Line{let("z", tableOf(last, named(last)))}, k, 0, api.OK)
	linesAre(t, []api.Line{let(last, number(1))}, k, 0, api.ErrTwice)
	deep := named("none")
	for range api.MaxDeep - 1 {
		deep = of(api.ExprMinus, deep)
	}
	linesAre(t, []api.Line{let("a", number(1)), let("b", deep)}, api.Known{}, 1, api.ErrNone)
}

// drawExpr has names of a few that may be lines, inputs or tables.
func drawExpr(d *draw, deep int) api.Expr {
	name := d.oneOf("a", "b", "c", "d", "e", "f")
	kind := d.below(7)
	if deep == 0 {
		kind = d.below(3)
	}
	switch kind {
	case 0:
		return number(d.below(9))
	case 1:
		return named(name)
	case 2:
		return yearOf(name)
	case 3:
		return tableOf(name, drawExpr(d, deep-1))
	case 4:
		return of(api.ExprMinus, drawExpr(d, deep-1))
	case 5:
		return of(api.ExprMax, drawExpr(d, deep-1), drawExpr(d, deep-1))
	}
	return api.Expr{Kind: api.ExprIf, Number: 2, Kids: []api.Expr{drawExpr(d, deep-1), drawExpr(d, deep-1), drawExpr(d, deep-1), drawExpr(d, deep-1)}}
}

func drawLines(d *draw) []api.Line {
	var l []api.Line
	for range d.below(6) {
		l = append(l, let(d.oneOf("a", "b", "c", "d", "e", "f", "g", "h"), drawExpr(d, d.below(3))))
	}
	return l
}

// asks lists what an expression asks for: kinds and names.
func asks(e api.Expr) []api.Expr {
	l := []api.Expr{{Kind: e.Kind, Name: e.Name}}
	for _, kid := range e.Kids {
		l = append(l, asks(kid)...)
	}
	return l
}

func isAmount(l []api.Amount, name string) bool {
	return slices.ContainsFunc(l, func(a api.Amount) bool { return a.Name == name })
}

func isLine(l []api.Line, name string) bool {
	return slices.ContainsFunc(l, func(x api.Line) bool { return x.Name == name })
}

func isTable(l []api.Table, name string) bool {
	return slices.ContainsFunc(l, func(x api.Table) bool { return x.Name == name })
}

// linesByLists asks each name of the lists as they are.
func linesByLists(l []api.Line, k api.Known) (int, api.Errno) {
	for i, line := range l {
		if isLine(l[:i], line.Name) || isAmount(k.Inputs, line.Name) {
			return i, api.ErrTwice
		}
		for _, e := range asks(line.Expr) {
			if e.Kind == api.ExprName && !isLine(l[:i], e.Name) && !isAmount(k.Inputs, e.Name) || e.Kind == api.ExprYear && !isLine(l, e.Name) || e.Kind == api.ExprTable && !isTable(k.Tables, e.Name) {
				return i, api.ErrNone
			}
		}
	}
	return 0, api.OK
}

func TestH2Drawn(t *testing.T) {
	d := draw(5)
	told := map[api.Errno]int{}
	for range 30000 {
		l := drawLines(&d)
		var lists [3][]string
		for i := range lists {
			for _, name := range []string{"a", "b", "c", "d", "e", "f"} {
				if d.below(2) == 0 {
					lists[i] = append(lists[i], name)
				}
			}
		}
		k := knownOf(lists[0], lists[1], lists[2])
		at, want := linesByLists(l, k)
		told[want]++
		linesAre(t, l, k, at, want)
	}
	for _, err := range []api.Errno{api.OK, api.ErrNone, api.ErrTwice} {
		if told[err] < 1000 {
			t.Errorf("%d was told %d times only", err, told[err])
		}
	}
}

func usesAre(t *testing.T, l []api.Line, line int, want []int, wantErr api.Errno) {
	t.Helper()
	if got, err := Uses(l, line); !slices.Equal(got, want) || err != wantErr {
		t.Errorf("Uses(%.300v, %d) = %v, %d; want %v, %d", l, line, got, err, want, wantErr)
	}
}

func TestH3Uses(t *testing.T) {
	for _, c := range []struct {
		text string
		want []int // of the last line
	}{
		{"let a = 1;", nil},
		{"let a = 1; let b = 1;", nil},
		{"let a = 1; let b = a;", []int{0}},
		{"let a = 1; let b = a; let c = b;", []int{0, 1}},
		{"let a = 1; let b = 1; let c = b; let d = a + c;", []int{0, 1, 2}},
		{"let a = 1; let b = 1; let c = a; let d = c;", []int{0, 2}},
		{"let a = 1; let b = a; let c = a; let d = c + b;", []int{0, 1, 2}},
		{"let a = 1; let b = a + a; let c = b - a; let d = c + b + a;", []int{0, 1, 2}},
		{"let a = 1; let b = year a;", nil},                          // the year's is none of the line's
		{"let t = 1; let b = table t of 1;", nil},                    // nor is a table
		{"let t = 1; let b = 1; let c = table t of b;", []int{1}},    // but what it is asked of
		{"let a = 1; let b = none; let c = b + pay;", []int{1}},      // names of no line are left out,
		{"let a = b; let b = a;", []int{0}},                          // so is one that is not ahead of the line that asks
		{"let a = a;", nil},                                          // or is itself
		{"let a = 1; let a = a;", []int{0}},                          // of several
		{"let a = 1; let a = 2; let b = a;", []int{1}},               // the last one ahead is meant
		{"let a = 1; let b = a; let a = 2; let c = b;", []int{0, 1}}, // ahead of the line that asks
		{"let a = 1; let b = a; let a = b; let c = a;", []int{0, 1, 2}},
		{"let a = 1; let a = 2; let a = a; let c = a;", []int{1, 2}},
	} {
		l := parsed(t, c.text)
		usesAre(t, l, len(l)-1, c.want, api.OK)
		usesAre(t, append(l, parsed(t, "let a = c; let b = a; let z = 1;")...), len(l)-1, c.want, api.OK) // lines behind it are none of its
	}
}

func TestH3Kids(t *testing.T) {
	for _, e := range around(named("a")) {
		usesAre(t, []api.Line{let("a", number(1)), let("b", number(1)), let("c", e)}, 2, []int{0}, api.OK)
	}
}

func TestH3Errors(t *testing.T) {
	l := parsed(t, "let a = 1; let b = a;")
	for _, line := range []int{-1 << 63, -1, 2, 3, 40, 1<<63 - 1} {
		usesAre(t, l, line, nil, api.ErrRange)
		usesAre(t, nil, line, nil, api.ErrRange)
		for want, wrong := range wrongLines() {
			usesAre(t, wrong, line, nil, want)
		}
	}
	usesAre(t, nil, 0, nil, api.ErrRange)
	for want, wrong := range wrongLines() {
		usesAre(t, wrong, 0, nil, want)
		usesAre(t, wrong, 1, nil, want)
	}
}

// usesByHand goes from a line to those that it asks for, and on from them.
func usesByHand(l []api.Line, line int, found map[int]bool) {
	for _, e := range asks(l[line].Expr) {
		if e.Kind != api.ExprName {
			continue
		}
		for at := line - 1; at >= 0; at-- {
			if l[at].Name == e.Name {
				found[at] = true
				usesByHand(l, at, found)
				break
			}
		}
	}
}

func TestH3Drawn(t *testing.T) {
	d := draw(9)
	for range 20000 {
		l := drawLines(&d)
		for line := range l {
			found := map[int]bool{}
			usesByHand(l, line, found)
			var want []int
			for at := range l {
				if found[at] {
					want = append(want, at)
				}
			}
			usesAre(t, l, line, want, api.OK)
		}
	}
}

// TestH3Edges: a line that hangs on all others, each asked for by all behind it.
func TestH3Edges(t *testing.T) {
	var l []api.Line
	var want []int
	for i, name := range rising(api.MaxLines) {
		e := number(1)
		if i > 0 {
			e = of(api.ExprPlus, named(l[i-1].Name), named(l[i/2].Name))
			want = append(want, i-1)
		}
		l = append(l, let(name, e))
	}
	usesAre(t, l, api.MaxLines-1, want, api.OK)
	usesAre(t, l, 0, nil, api.OK)
}

// TestP1: Kids without end are ErrMany, and all calls end.
func TestP1(t *testing.T) {
	for _, e := range sharedWithoutEnd() {
		l := []api.Line{let("a", number(1)), let("b", e)}
		linesAre(t, l, api.Known{}, 0, api.ErrMany)
		usesAre(t, l, 0, nil, api.ErrMany)
		usesAre(t, l, 1, nil, api.ErrMany)
	}
}

// TestP2: what is handed in is only read, and what comes out is the caller's.
func TestP2(t *testing.T) {
	text := "let a = pay; let b = a + table t of a; let c = max(b, year c);"
	room := append(parsed(t, text), let("spare", number(1)))
	l := room[:3]
	k := payAndTable()
	linesAre(t, l, k, 0, api.OK)
	uses, err := Uses(l, 2)
	if err != api.OK || !slices.Equal(uses, []int{0, 1}) {
		t.Fatalf("Uses = %v, %d", uses, err)
	}
	uses[0], uses[1] = 77, 77
	usesAre(t, l, 2, []int{0, 1}, api.OK)
	if !reflect.DeepEqual(k, payAndTable()) || !reflect.DeepEqual(l, parsed(t, text)) || !reflect.DeepEqual(room[3], let("spare", number(1))) {
		t.Errorf("what was handed in became %v and %v", room, k)
	}
}

// FuzzLines: whatever is parsed, names mean what the lists say.
func FuzzLines(f *testing.F) {
	f.Add("let a = pay; let b = a + table t of a; let c = max(b, year c);")
	f.Add("let a = b; let b = a; let a = year none;")
	f.Fuzz(func(t *testing.T, s string) {
		l, fault := rules.Parse(s)
		if fault != (api.Fault{}) {
			return
		}
		at, want := linesByLists(l, payAndTable())
		linesAre(t, l, payAndTable(), at, want)
	})
}
