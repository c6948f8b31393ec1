package code

import (
	"paycycle/api"
	"paycycle/bind"
	"paycycle/bounds"
)

// Check a program.
func Check(ops []api.Op, lines int, k api.Known) (int, api.Errno) {
	if len(ops) > api.MaxOps || lines < 0 || lines > api.MaxLines {
		return 0, api.ErrMany
	}
	if err := bind.Known(k); err != api.OK {
		return 0, err
	}
	c := &checker{ops: ops, lines: lines, known: k, spots: make([]spot, len(ops)+1)}
	c.spots[0].reachBy(state{})
	for at := range ops {
		if err := c.step(at); err != api.OK {
			return 0, err
		}
	}
	if end := (state{kept: 1<<lines - 1}); !c.spots[len(ops)].isAlways(end) {
		return 0, api.ErrState
	}
	return c.most, api.OK
}

// state: how many numbers lie on one another, and which lines are kept (a bit each).
type state struct {
	deep int
	kept uint64
}

// spot: whether one comes to a step (or to the end), with which state, and whether that hangs on how one comes there.
type spot struct {
	state          state
	reached, hangs bool
}

func (s *spot) reachBy(now state) {
	s.hangs = s.hangs || s.reached && s.state != now
	s.state, s.reached = now, true
}

func (s spot) isAlways(one state) bool { return !s.hangs && s.state == one }

// checker goes from the first step to the last one: as jumps go only further on, all ways to a step are known when it is its turn.
type checker struct {
	ops   []api.Op
	lines int
	known api.Known
	spots []spot
	most  int
}

func (c *checker) step(at int) api.Errno {
	op, here := c.ops[at], c.spots[at]
	switch {
	case op.Do < api.OpNumber || op.Do > api.OpKeep:
		return api.ErrKind
	case !c.numberFits(at):
		return api.ErrRange
	case !here.reached:
		return api.OK
	case here.hangs || !here.state.allows(op):
		return api.ErrState
	}
	next := here.state.after(op)
	c.most = max(c.most, next.deep)
	c.spots[at+1+further(op)].reachBy(next)
	if op.Do == api.OpTest {
		c.spots[at+1].reachBy(next)
	}
	return api.OK
}

func (c *checker) numberFits(at int) bool {
	op := c.ops[at]
	switch op.Do {
	case api.OpNumber:
		return bounds.IsMoney(op.Number)
	case api.OpInput:
		return isBelow(op.Number, len(c.known.Inputs))
	case api.OpYear:
		return isBelow(op.Number, len(c.known.Years))
	case api.OpTable:
		return isBelow(op.Number, len(c.known.Tables))
	case api.OpLine, api.OpKeep:
		return isBelow(op.Number, c.lines)
	case api.OpRate:
		return op.Number >= 0 && op.Number <= api.MaxRate
	case api.OpTimes, api.OpOver:
		return op.Number >= 1 && op.Number <= api.MaxRate
	case api.OpJump:
		return isBelow(further(op), len(c.ops)-at)
	case api.OpTest:
		return testOf(op) >= api.TestLess && testOf(op) <= api.TestEqual && isBelow(further(op), len(c.ops)-at)
	}
	return op.Number == 0
}

func isBelow(n, top int) bool { return n >= 0 && n < top }

// allows: is there what a step takes, and is a line kept, or not yet, as it asks for?
func (s state) allows(op api.Op) bool {
	if s.deep < effects[op.Do].takes {
		return false
	}
	switch op.Do {
	case api.OpLine:
		return s.kept&lineBit(op) != 0
	case api.OpKeep:
		return s.kept&lineBit(op) == 0
	}
	return true
}

func (s state) after(op api.Op) state {
	s.deep += effects[op.Do].lays - effects[op.Do].takes
	if op.Do == api.OpKeep {
		s.kept |= lineBit(op)
	}
	return s
}

func lineBit(op api.Op) uint64 { return 1 << op.Number }
