package code

import (
	"paycycle/api"
	"paycycle/reckon"
)

// Run a program.
func Run(ops []api.Op, lines int, k api.Known) ([]int, int, api.Errno) {
	most, err := Check(ops, lines, k)
	if err != api.OK {
		return nil, 0, err
	}
	m := &machine{known: k, pile: make([]int, 0, most), values: make([]int, lines)}
	err = reckon.Try(func() {
		for m.at < len(ops) {
			m.step(ops[m.at])
		}
	})
	if err != api.OK {
		return nil, m.at, err
	}
	return m.values, 0, api.OK
}

// machine: at which step it is, the numbers that lie on one another, and what lines came to. It does only what Check lets pass, and so looks at nothing twice.
type machine struct {
	known        api.Known
	at           int
	pile, values []int
}

func (m *machine) step(op api.Op) {
	taken := m.take(effects[op.Do].takes)
	switch op.Do {
	case api.OpJump:
		m.at += further(op)
	case api.OpTest:
		if !reckon.Holds(testOf(op), taken[0], taken[1]) {
			m.at += further(op)
		}
	case api.OpKeep:
		m.values[op.Number] = taken[0]
	default:
		m.pile = append(m.pile, m.reckoned(op, taken))
	}
	m.at++
}

// take so many numbers, the lower one first.
func (m *machine) take(n int) [mostTaken]int {
	var taken [mostTaken]int
	left := len(m.pile) - n
	copy(taken[:], m.pile[left:])
	m.pile = m.pile[:left]
	return taken
}

// reckoned: what a step lays down.
func (m *machine) reckoned(op api.Op, taken [mostTaken]int) int {
	switch op.Do {
	case api.OpNumber:
		return op.Number
	case api.OpInput:
		return m.known.Inputs[op.Number].Money
	case api.OpLine:
		return m.values[op.Number]
	case api.OpYear:
		return m.known.Years[op.Number].Money
	case api.OpRate:
		return reckon.Rate(taken[0], op.Number)
	case api.OpTable:
		return reckon.Tax(m.known.Tables[op.Number], taken[0])
	case api.OpMinus:
		return -taken[0]
	case api.OpPlus:
		return reckon.Money(taken[0] + taken[1])
	case api.OpLess:
		return reckon.Money(taken[0] - taken[1])
	case api.OpTimes:
		return reckon.Money(taken[0] * op.Number)
	case api.OpOver:
		return reckon.Over(taken[0], op.Number)
	case api.OpMin:
		return min(taken[0], taken[1])
	}
	return max(taken[0], taken[1])
}
