package retro

import (
	"math"
	"testing"

	"paycycle/api"
)

func manyLines(n int) []api.Line {
	var l []api.Line
	for i := range n {
		l = append(l, api.Line{Kind: api.LineLet, Name: letters(i), Expr: api.Expr{Kind: api.ExprNumber, Number: i}})
	}
	return l
}

func manyInputs(n int) []api.Input {
	var l []api.Input
	for i := range n {
		l = append(l, input("x"+letters(i), row(0, 0, i)))
	}
	return l
}

func manyTables(n int) []api.Table {
	var l []api.Table
	for i := range n {
		l = append(l, api.Table{Name: letters(i), Brackets: []api.Bracket{{}}})
	}
	return l
}

func TestN1Right(t *testing.T) {
	pay := input("pay", row(3, 1, 7))
	table := api.Table{Name: "pay", Brackets: []api.Bracket{{Rate: 100}}}
	for _, p := range []api.Plan{
		monthly(nil), monthly(nil, pay), monthly(manyLines(1)), {Schedule: api.Schedule{Kind: api.ScheduleTwo, Anchor: api.MaxDay, Lag: api.MaxLag}},
		{Schedule: api.Schedule{Kind: api.ScheduleHalf}}, weekly(3, parsed(t, "earn a = pay; let b = year c; let c = a;"), pay),
		{Schedule: api.Schedule{Kind: api.ScheduleMonth}, Lines: parsed(t, "earn a = table pay of pay;"), Tables: []api.Table{table}, Inputs: []api.Input{pay}},
		{Schedule: api.Schedule{Kind: api.ScheduleMonth}, Lines: manyLines(api.MaxNames), Tables: manyTables(api.MaxNames), Inputs: manyInputs(api.MaxNames)},
		monthly(nil, input("a", make([]api.Row, api.MaxRows)...), input("b", make([]api.Row, api.MaxRows)...)),
		monthly(nil, input("a"), input("aa"), input("b")),
	} {
		if err := Check(p); err != api.OK {
			t.Errorf("Check(%v) = %d", p, err)
		}
	}
}

func TestN1Schedule(t *testing.T) {
	for _, s := range []api.Schedule{{}, {Kind: 5}, {Kind: -1}, {Kind: math.MaxInt}} {
		refused(t, api.Plan{Schedule: s}, api.ErrKind)
		refused(t, api.Plan{Schedule: s, Lines: make([]api.Line, 100), Inputs: manyInputs(40)}, api.ErrKind)
	}
	for _, s := range []api.Schedule{{Kind: 4, Anchor: -1}, {Kind: 1, Anchor: api.MaxDay + 1}, {Kind: 2, Lag: -1}, {Kind: 3, Lag: api.MaxLag + 1}} {
		refused(t, api.Plan{Schedule: s}, api.ErrRange)
		refused(t, api.Plan{Schedule: s, Lines: make([]api.Line, 100), Inputs: manyInputs(40)}, api.ErrRange)
	}
}

func TestN1Lines(t *testing.T) {
	over := api.Expr{Kind: api.ExprOver, Kids: []api.Expr{named("a")}}
	wide := manyInputs(api.MaxNames + 1)
	for _, c := range []struct {
		l    []api.Line
		want api.Errno
	}{
		{make([]api.Line, 1), api.ErrKind}, {[]api.Line{{Kind: api.LineLet}}, api.ErrForm}, {[]api.Line{{Kind: api.LineLet, Name: "if"}}, api.ErrForm},
		{[]api.Line{{Kind: api.LineLet, Name: "b", Expr: api.Expr{Kind: 99}}}, api.ErrKind}, {[]api.Line{{Kind: api.LineLet, Name: "b", Expr: over}}, api.ErrRange},
		{manyLines(api.MaxLines + 1), api.ErrMany},
	} {
		refused(t, monthly(c.l), c.want)
		refused(t, monthly(c.l, wide...), c.want)
		refused(t, monthly(c.l, input("a", row(-1, 0, 0))), c.want)
	}
	bad := manyLines(api.MaxNames + 1)
	bad[api.MaxNames].Kind = 0
	refused(t, monthly(bad), api.ErrKind)
}

func TestN1Many(t *testing.T) {
	for _, n := range []int{api.MaxNames + 1, api.MaxLines} {
		refused(t, monthly(manyLines(n)), api.ErrMany)
		refused(t, monthly(manyLines(n), input("a", row(-1, 0, 0))), api.ErrMany)
	}
	for _, n := range []int{api.MaxNames + 1, 600} {
		refused(t, monthly(nil, manyInputs(n)...), api.ErrMany)
		refused(t, monthly(nil, make([]api.Input, n)...), api.ErrMany)
		refused(t, monthly(nil, append(manyInputs(n), input("", row(-1, 0, 0)))...), api.ErrMany)
	}
}

func TestN1Rows(t *testing.T) {
	range1, state, many := input("b", row(-1, 0, 0)), input("c", row(0, 2, 0), row(0, 1, 0)), input("d", make([]api.Row, api.MaxRows+1)...)
	unknown := parsed(t, "let e = nobody;")
	for _, c := range []struct {
		inputs []api.Input
		want   api.Errno
	}{
		{[]api.Input{range1}, api.ErrRange}, {[]api.Input{state}, api.ErrState}, {[]api.Input{many}, api.ErrMany},
		{[]api.Input{input("b", api.Row{Gone: true, Value: 1})}, api.ErrRange}, {[]api.Input{input("b", row(0, 0, api.MaxMoney+1))}, api.ErrRange},
		{[]api.Input{range1, state, many}, api.ErrRange}, {[]api.Input{state, many, range1}, api.ErrState}, {[]api.Input{many, range1, state}, api.ErrMany},
		{[]api.Input{input("a"), state}, api.ErrState}, {append(manyInputs(api.MaxNames-1), state), api.ErrState},
		{[]api.Input{input(""), input(""), state}, api.ErrState}, // rows of all ahead of names
	} {
		refused(t, monthly(nil, c.inputs...), c.want)
		refused(t, monthly(unknown, c.inputs...), c.want)
	}
}

func TestN1Names(t *testing.T) {
	fine := api.Table{Name: "t", Brackets: []api.Bracket{{}}}
	with := func(l []api.Line, tables []api.Table, inputs ...api.Input) api.Plan {
		p := monthly(l, inputs...)
		p.Tables = tables
		return p
	}
	unknown := parsed(t, "let e = nobody;")
	for _, l := range [][]api.Line{nil, unknown} {
		refused(t, with(l, manyTables(api.MaxNames+1), input("")), api.ErrMany)
		refused(t, with(l, nil, input("")), api.ErrForm)
		refused(t, with(l, nil, input("a"), input("year")), api.ErrForm)
		refused(t, with(l, []api.Table{{}}, input("a"), input("a")), api.ErrTwice)
		refused(t, with(l, nil, input("b"), input("a")), api.ErrTwice)
		refused(t, with(l, []api.Table{{Name: "t"}}), api.ErrMany)
		refused(t, with(l, []api.Table{{Name: "t", Brackets: []api.Bracket{{Rate: -1}}}}), api.ErrRange)
		refused(t, with(l, []api.Table{fine, fine}), api.ErrTwice)
	}
	refused(t, monthly(unknown), api.ErrNone)
	refused(t, monthly(unknown, input("nobodyx")), api.ErrNone)
	refused(t, monthly(parsed(t, "let a = b; let b = 1;")), api.ErrNone)
	refused(t, monthly(parsed(t, "let a = year pay;"), input("pay")), api.ErrNone)
	refused(t, monthly(parsed(t, "let a = table pay of pay;"), input("pay")), api.ErrNone)
	refused(t, monthly(parsed(t, "let a = 1; let a = 2;")), api.ErrTwice)
	refused(t, monthly(parsed(t, "let pay = 1;"), input("pay")), api.ErrTwice)
}

func TestP1KidsThatHoldThemselves(t *testing.T) {
	kids := make([]api.Expr, 1)
	kids[0] = api.Expr{Kind: api.ExprMinus, Kids: kids}
	refused(t, monthly([]api.Line{{Kind: api.LineLet, Name: "a", Expr: kids[0]}}), api.ErrMany)
}
