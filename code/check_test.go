package code

import (
	"math"
	"testing"

	"paycycle/api"
)

func checkIs(t *testing.T, ops []api.Op, lines int, k api.Known, want int, wantErr api.Errno) {
	t.Helper()
	got, err := Check(ops, lines, k)
	if got != want || err != wantErr {
		t.Errorf("Check(%.300v, %d) = %d, %d; want %d, %d", ops, lines, got, err, want, wantErr)
	}
	if wantErr == api.OK {
		return
	}
	if values, at, err := Run(ops, lines, k); len(values) > 0 || at != 0 || err != wantErr {
		t.Errorf("Run(%.300v, %d) = %v, %d, %d; want %d", ops, lines, values, at, err, wantErr)
	}
}

func TestJ2Written(t *testing.T) {
	for _, c := range []struct {
		ops   []api.Op
		lines int
		want  int
		err   api.Errno
	}{
		{nil, 0, 0, api.OK},
		{nil, 1, 0, api.ErrState},
		{steps(1, 5, 16, 0), 1, 1, api.OK},
		{steps(1, 5, 16, 0), 2, 0, api.ErrState},       // a line is not kept
		{steps(1, 5, 1, 5, 16, 0), 1, 0, api.ErrState}, // something lies there
		{steps(1, 5), 0, 0, api.ErrState},
		{steps(1, 5, 1, 6, 1, 7, 8, 0, 8, 0, 16, 0), 1, 3, api.OK},
		{steps(1, 5, 1, 6, 8, 0, 1, 7, 8, 0, 16, 0), 1, 2, api.OK},
		{steps(1, 5, 8, 0, 16, 0), 1, 0, api.ErrState},        // less lies there than is taken
		{steps(1, 5, 16, 1, 1, 6, 16, 0), 2, 1, api.OK},       // lines are kept in any order,
		{steps(1, 5, 16, 0, 1, 5, 16, 0), 1, 0, api.ErrState}, // but not twice
		{steps(3, 0, 16, 0), 1, 0, api.ErrState},              // asked for ahead of being kept
		{steps(1, 5, 16, 1, 3, 1, 16, 0), 2, 1, api.OK},
		{steps(1, 5, 16, 1, 3, 0, 16, 0), 2, 0, api.ErrState},
		{steps(14, 0, 14, 0), 0, 0, api.OK},                         // a jump over nothing
		{steps(14, 1, 7, 0), 0, 0, api.OK},                          // one cannot come to a step that takes too much,
		{steps(14, 2, 1, 1, 16, 0, 1, 2, 16, 0), 1, 1, api.OK},      // or keeps twice,
		{steps(14, 1, 3, 0, 1, 2, 16, 0), 1, 1, api.OK},             // or asks too early,
		{steps(14, 3, 1, 1, 1, 1, 1, 1, 1, 2, 16, 0), 1, 1, api.OK}, // and what it lays down does not count,
		{steps(14, 2, 14, 0, 8, 0, 1, 2, 16, 0), 1, 1, api.OK},      // nor does where it goes,
		{steps(14, 1, 0, 0, 1, 2, 16, 0), 1, 0, api.ErrKind},        // but its Do does,
		{steps(14, 1, 8, 1, 1, 2, 16, 0), 1, 0, api.ErrRange},       // and its Number
		{steps(1, 1, 1, 2, 15, 1, 1, 7, 16, 0), 1, 2, api.OK},       // a test that goes on at the same step
		{steps(1, 1, 1, 2, 15, 9, 1, 7, 14, 1, 1, 8, 16, 0), 1, 2, api.OK},
		{steps(1, 1, 1, 2, 15, 5, 1, 7, 16, 0), 1, 0, api.ErrState},                                   // how many lie there hangs on the way
		{steps(1, 1, 1, 2, 15, 5, 1, 7), 0, 0, api.ErrState},                                          // at the end too
		{steps(1, 1, 1, 2, 15, 9, 1, 7, 16, 0, 14, 0), 1, 0, api.ErrState},                            // so does which lines are kept,
		{steps(1, 1, 1, 2, 15, 9, 1, 7, 16, 0), 1, 0, api.ErrState},                                   // at the end too
		{steps(1, 1, 1, 2, 15, 13, 1, 7, 16, 0, 14, 2, 1, 8, 16, 0), 1, 2, api.OK},                    // each way keeps it
		{steps(1, 1, 1, 2, 15, 13, 1, 7, 16, 0, 14, 2, 1, 8, 16, 1, 1, 9, 16, 1), 2, 0, api.ErrState}, // each way another one
		{steps(1, 1, 1, 2, 15, 13, 1, 7, 16, 0, 14, 2, 1, 8, 16, 1), 2, 0, api.ErrState},
		{steps(15, 1), 0, 0, api.ErrState}, // a test takes two
		{steps(1, 1, 15, 1), 0, 0, api.ErrState},
		{steps(1, 1, 1, 1, 15, 3), 0, 2, api.OK},
		{steps(16, 0), 1, 0, api.ErrState}, // keeping takes one
		{steps(1, 1, 16, 0, 16, 0), 1, 0, api.ErrState},
	} {
		checkIs(t, c.ops, c.lines, house(), c.want, c.err)
		if most, err := checkByWays(c.ops, c.lines, house()); most != c.want || err != c.err {
			t.Errorf("checkByWays(%v, %d) = %d, %d", c.ops, c.lines, most, err)
		}
	}
}

// TestJ2Takes: each step takes and lays down what package api says.
func TestJ2Takes(t *testing.T) {
	for do := api.OpNumber; do <= api.OpKeep; do++ {
		op := api.Op{Do: do, Number: map[int]int{api.OpTimes: 1, api.OpOver: 1, api.OpTest: 1, api.OpKeep: 1}[do]}
		takes, lays := asWritten(op)
		for lie := range 4 {
			ops := steps(1, 7, 16, 0) // so that there is a line to be asked for
			lines := 1
			for range lie {
				ops = append(ops, api.Op{Do: api.OpNumber})
			}
			ops = append(ops, op)
			if do == api.OpKeep {
				lines++
			}
			for range lie - takes + lays {
				ops = append(ops, api.Op{Do: api.OpKeep, Number: lines})
				lines++
			}
			if lie < takes {
				checkIs(t, ops, lines, house(), 0, api.ErrState)
				continue
			}
			checkIs(t, ops, lines, house(), max(1, lie, lie-takes+lays), api.OK)
		}
	}
}

// TestJ2Numbers: from where to where each Number goes.
func TestJ2Numbers(t *testing.T) {
	type bounds struct{ from, to int }
	for do, b := range map[int]bounds{
		api.OpNumber: {-api.MaxMoney, api.MaxMoney}, api.OpInput: {0, 2}, api.OpYear: {0, 3}, api.OpTable: {0, 1}, api.OpRate: {0, api.MaxRate}, api.OpTimes: {1, api.MaxRate}, api.OpOver: {1, api.MaxRate},
		api.OpMinus: {}, api.OpPlus: {}, api.OpLess: {}, api.OpMin: {}, api.OpMax: {}, api.OpJump: {0, 0},
	} {
		for _, n := range []int{b.from, b.to, (b.from + b.to) / 2} {
			if _, err := Check(rooted(api.Op{Do: do, Number: n}), 1, house()); err != api.OK {
				t.Errorf("step %d may not have %d: %d", do, n, err)
			}
		}
		for _, n := range []int{b.from - 1, math.MinInt, math.MaxInt, -1 << 52} {
			checkIs(t, rooted(api.Op{Do: do, Number: n}), 1, house(), 0, api.ErrRange)
		}
		if do != api.OpJump {
			checkIs(t, rooted(api.Op{Do: do, Number: b.to + 1}), 1, house(), 0, api.ErrRange)
		}
	}
	none := api.Known{}
	for _, do := range []int{api.OpInput, api.OpYear, api.OpTable} {
		checkIs(t, rooted(api.Op{Do: do}), 1, none, 0, api.ErrRange)
	}
}

// TestJ2Lines: lines that are asked for and kept lie below how many there are.
func TestJ2Lines(t *testing.T) {
	for _, lines := range []int{0, 1, 2, 39, 40} {
		var ops []api.Op
		for i := range lines {
			ops = append(ops, api.Op{Do: api.OpNumber}, api.Op{Do: api.OpKeep, Number: i})
		}
		checkIs(t, ops, lines, house(), min(1, lines), api.OK)
		for _, n := range []int{lines, lines + 1, 64, 1 << 40, -1, math.MinInt, math.MaxInt} {
			checkIs(t, append(ops, steps(1, 1, api.OpKeep, n)...), lines, house(), 0, api.ErrRange)
			checkIs(t, append(ops, steps(api.OpLine, n, 7, 0)...), lines, house(), 0, api.ErrRange)
		}
		for n := range lines {
			checkIs(t, append(ops, steps(api.OpLine, n, api.OpLine, 0, 15, 1)...), lines, house(), 2, api.OK)
			checkIs(t, append(ops, steps(api.OpLine, n, api.OpKeep, 0)...), lines, house(), 0, api.ErrState)
		}
	}
}

// TestJ2Jumps: a jump ends at a step, or at the end.
func TestJ2Jumps(t *testing.T) {
	for behind := range 5 {
		for n := -3; n < 8; n++ {
			jump := steps(14, n)
			test := steps(1, 1, 1, 1, 15, 4*n+2)
			for range behind {
				jump = append(jump, api.Op{Do: api.OpJump})
				test = append(test, api.Op{Do: api.OpJump})
			}
			err, most := api.OK, 2
			if n < 0 || n > behind {
				err, most = api.ErrRange, 0
			}
			checkIs(t, jump, 0, house(), 0, err)
			checkIs(t, test, 0, house(), most, err)
		}
	}
	for _, n := range []int{math.MaxInt, math.MaxInt - 1, math.MinInt, math.MinInt + 1, -1, -2, -3, -4, -5, -7, 0, 4, 8, 1 << 62, 1<<62 + 1} {
		checkIs(t, steps(1, 1, 1, 1, 15, n, 14, 0, 14, 0), 0, house(), 0, api.ErrRange)
	}
	for _, n := range []int{1, 2, 3, 5, 6, 7, 9, 10, 11} {
		checkIs(t, steps(1, 1, 1, 1, 15, n, 14, 0, 14, 0), 0, house(), 2, api.OK)
	}
	for _, n := range []int{12, 13, 14, 15, 16} {
		checkIs(t, steps(1, 1, 1, 1, 15, n, 14, 0, 14, 0), 0, house(), 0, api.ErrRange)
	}
}

func TestJ2Many(t *testing.T) {
	right := make([]api.Op, api.MaxOps)
	for i := range right {
		right[i].Do = api.OpJump
	}
	checkIs(t, right, 0, house(), 0, api.OK)
	checkIs(t, append(right, api.Op{Do: api.OpJump}), 0, house(), 0, api.ErrMany)
	checkIs(t, make([]api.Op, api.MaxOps+1), 0, house(), 0, api.ErrMany)
	checkIs(t, make([]api.Op, api.MaxOps), 0, house(), 0, api.ErrKind)
	for _, lines := range []int{-1, 41, 64, math.MinInt, math.MaxInt} {
		checkIs(t, nil, lines, house(), 0, api.ErrMany)
		checkIs(t, steps(0, 0), lines, api.Known{Inputs: make([]api.Amount, 1)}, 0, api.ErrMany)
	}
	pile := make([]api.Op, api.MaxOps)
	for i := range pile {
		pile[i] = api.Op{Do: api.OpNumber}
		if i >= api.MaxOps/2 {
			pile[i].Do = api.OpMin
		}
	}
	pile[api.MaxOps-1].Do = api.OpKeep
	checkIs(t, pile, 1, house(), api.MaxOps/2, api.OK)
}

// TestJ2Order: what is known comes ahead of steps; of a step ErrKind, ErrRange and ErrState in turn; of steps the first one.
func TestJ2Order(t *testing.T) {
	for _, k := range []api.Known{{Inputs: make([]api.Amount, 1)}, {Tables: make([]api.Table, 31)}, {Years: []api.Amount{{Name: "a", Money: math.MaxInt}}}, {Inputs: []api.Amount{{Name: "b"}, {Name: "a"}}}} {
		err := map[int]api.Errno{0: api.ErrTwice, 1: api.ErrRange, 31: api.ErrMany}[len(k.Tables)+len(k.Years)]
		if len(k.Inputs) == 1 {
			err = api.ErrForm
		}
		for _, ops := range [][]api.Op{nil, steps(0, 0), steps(7, 1), steps(7, 0)} {
			checkIs(t, ops, 0, k, 0, err)
		}
		checkIs(t, make([]api.Op, api.MaxOps+1), 0, k, 0, api.ErrMany)
	}
	for _, c := range []struct {
		ops []api.Op
		err api.Errno
	}{
		{steps(0, -1), api.ErrKind}, {steps(-1, 0), api.ErrKind}, {steps(17, 0), api.ErrKind}, {steps(math.MinInt, 0), api.ErrKind}, {steps(math.MaxInt, 0), api.ErrKind},
		{steps(7, 1), api.ErrRange}, {steps(16, 1), api.ErrRange}, {steps(7, 0), api.ErrState},
		{steps(7, 0, 7, 1, 0, 0), api.ErrState}, {steps(7, 1, 7, 0, 0, 0), api.ErrRange}, {steps(0, 0, 7, 0, 7, 1), api.ErrKind},
		{steps(7, 0, 0, 0), api.ErrState}, {steps(1, 1, 0, 0), api.ErrKind}, {steps(1, 1, 7, 1), api.ErrRange},
		{steps(1, 1, 1, 1, 15, 5, 1, 1, 14, 0, 0, 0), api.ErrState}, // the ways meet, and hang, ahead of what is no step
		{steps(1, 1, 1, 1, 15, 9, 1, 1, 0, 0, 14, 0), api.ErrKind},  // they would meet behind it
		{steps(1, 1, 1, 1, 15, 9, 1, 1, 7, 1, 14, 0), api.ErrRange},
		{steps(1, 1, 1, 1, 15, 5, 1, 1, 0, 0), api.ErrKind}, // where they meet there is none
		{steps(1, 1, 1, 1, 15, 5, 1, 1, 7, 1), api.ErrRange},
		{steps(1, 1, 14, 0, 14, 1), api.ErrRange}, // ahead of the end
	} {
		checkIs(t, c.ops, 1, house(), 0, c.err)
	}
}

// drawOp is a step that may stand somewhere, or nearly so.
func drawOp(d *draw) api.Op {
	op := api.Op{Do: 1 + d.below(16)}
	switch op.Do {
	case api.OpNumber:
		op.Number = oneOf(d, 0, 1, -1, 50, 12345, api.MaxMoney, -api.MaxMoney)
	case api.OpInput, api.OpYear, api.OpTable, api.OpLine, api.OpKeep, api.OpJump:
		op.Number = d.below(3)
	case api.OpRate, api.OpTimes, api.OpOver:
		op.Number = 1 + d.below(3)
	case api.OpTest:
		op.Number = 1 + d.below(11)
	}
	if d.below(60) == 0 {
		op.Number = oneOf(d, -1, 0, 1, 2, 3, 4, api.MaxRate+1, api.MaxMoney+1)
	}
	if d.below(60) == 0 {
		op.Do = oneOf(d, 0, 17, -1)
	}
	return op
}

// drawOps: steps one behind the other; or made of lines, and then changed here and there.
func drawOps(d *draw) ([]api.Op, int) {
	if d.below(3) == 0 {
		var ops []api.Op
		for range d.below(9) {
			ops = append(ops, drawOp(d))
		}
		return ops, d.below(3)
	}
	l := drawLines(d, 3, 3)
	ops, _ := Make(l, house())
	for range d.below(3) {
		at := d.below(len(ops))
		switch d.below(4) {
		case 0:
			ops[at] = drawOp(d)
		case 1:
			ops = append(ops[:at:at], append([]api.Op{drawOp(d)}, ops[at:]...)...)
		case 2:
			ops[at].Number += 1 - d.below(3)
		case 3:
			other := d.below(len(ops))
			ops[at], ops[other] = ops[other], ops[at]
		}
	}
	return ops, len(l)
}

// TestJ2Drawn: what Check tells is what all ways through a program say.
func TestJ2Drawn(t *testing.T) {
	d := draw(23)
	told := map[api.Errno]int{}
	for range 60000 {
		ops, lines := drawOps(&d)
		if len(ops) > 60 {
			continue
		}
		want, err := checkByWays(ops, lines, house())
		told[err]++
		checkIs(t, ops, lines, house(), want, err)
	}
	for _, err := range []api.Errno{api.OK, api.ErrKind, api.ErrRange, api.ErrState} {
		if told[err] < 500 {
			t.Errorf("%d was told %d times only", err, told[err])
		}
	}
}
