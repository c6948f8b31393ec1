package code

import (
	"paycycle/api"
	"paycycle/bind"
	"paycycle/names"
)

// Make a program.
func Make(l []api.Line, k api.Known) ([]api.Op, api.Errno) {
	if _, err := bind.Lines(l, k); err != api.OK {
		return nil, err
	}
	m := &maker{meant: names.MeantIn(l, k)}
	for i, line := range l {
		m.expr(line.Expr)
		m.step(api.OpKeep, i)
	}
	return m.ops, api.OK
}

// maker writes steps down, those of Kids ahead of those of what they are in.
type maker struct {
	meant names.Meant
	ops   []api.Op
}

func (m *maker) step(do, number int) { m.ops = append(m.ops, api.Op{Do: do, Number: number}) }

// doOf: which step does what an expression of a kind does, when its Kids lie there.
var doOf = [...]int{
	api.ExprNumber: api.OpNumber,
	api.ExprRate:   api.OpRate,
	api.ExprMinus:  api.OpMinus,
	api.ExprPlus:   api.OpPlus,
	api.ExprLess:   api.OpLess,
	api.ExprTimes:  api.OpTimes,
	api.ExprOver:   api.OpOver,
	api.ExprMin:    api.OpMin,
	api.ExprMax:    api.OpMax,
}

func (m *maker) expr(e api.Expr) {
	if e.Kind == api.ExprIf {
		m.choice(e)
		return
	}
	for _, kid := range e.Kids {
		m.expr(kid)
	}
	switch e.Kind {
	case api.ExprName:
		m.named(e.Name)
	case api.ExprYear:
		m.inYear(e.Name)
	case api.ExprTable:
		m.step(api.OpTable, m.meant.Tables[e.Name])
	default:
		m.step(doOf[e.Kind], e.Number)
	}
}

// named: no name is both a line's and an input's.
func (m *maker) named(name string) {
	if place, ok := m.meant.Lines[name]; ok {
		m.step(api.OpLine, place)
		return
	}
	m.step(api.OpInput, m.meant.Inputs[name])
}

func (m *maker) inYear(name string) {
	if place, ok := m.meant.Years[name]; ok {
		m.step(api.OpYear, place)
		return
	}
	m.step(api.OpNumber, 0)
}

// choice writes a test that passes over the third Kid, and behind that a jump that passes over the fourth one; how far they go is known when these are written.
func (m *maker) choice(e api.Expr) {
	m.expr(e.Kids[0])
	m.expr(e.Kids[1])
	test := len(m.ops)
	m.step(api.OpTest, 0)
	m.expr(e.Kids[2])
	jump := len(m.ops)
	m.step(api.OpJump, 0)
	m.expr(e.Kids[3])
	m.ops[test].Number = e.Number + testWays*(jump-test)
	m.ops[jump].Number = len(m.ops) - jump - 1
}
