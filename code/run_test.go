package code

import (
	"reflect"
	"slices"
	"testing"

	"paycycle/api"
)

func runIs(t *testing.T, ops []api.Op, lines int, want []int, at int, wantErr api.Errno) {
	t.Helper()
	if got, gotAt, err := Run(ops, lines, house()); !slices.Equal(got, want) || gotAt != at || err != wantErr {
		t.Errorf("Run(%.300v, %d) = %v, %d, %d; want %v, %d, %d", ops, lines, got, gotAt, err, want, at, wantErr)
	}
}

// TestJ3Steps: what each step makes of what it takes.
func TestJ3Steps(t *testing.T) {
	for _, c := range []struct {
		ops  []api.Op
		want int
	}{
		{steps(1, 5), 5}, {steps(1, -5), -5}, {steps(1, api.MaxMoney), api.MaxMoney}, {steps(1, -api.MaxMoney), -api.MaxMoney},
		{steps(2, 0), -12345}, {steps(2, 1), api.MaxMoney}, {steps(2, 2), 250000},
		{steps(4, 0), 777}, {steps(4, 1), -5}, {steps(4, 2), 9}, {steps(4, 3), api.MaxMoney},
		{steps(1, 5, 5, 0), 0}, {steps(2, 2, 5, 250), 6250}, {steps(1, 1, 5, 5000), 1}, {steps(1, 1, 5, 4999), 0}, {steps(1, -1, 5, 5000), -1}, {steps(1, 3, 5, 5000), 2}, {steps(1, -3, 5, 5000), -2}, {steps(1, 5, 5, 10000), 5}, {steps(1, 5, 5, api.MaxRate), 500},
		{steps(2, 2, 6, 0), 250000}, {steps(2, 2, 6, 1), 40750}, {steps(2, 0, 6, 1), 0}, {steps(1, 5, 6, 1), 1}, {steps(1, 4, 6, 1), 0},
		{steps(1, 5, 7, 0), -5}, {steps(1, -5, 7, 0), 5}, {steps(1, 0, 7, 0), 0},
		{steps(1, 3, 1, 4, 8, 0), 7}, {steps(1, 3, 1, -4, 8, 0), -1}, {steps(1, 3, 1, 4, 9, 0), -1}, {steps(1, 4, 1, 3, 9, 0), 1},
		{steps(1, 3, 10, 1), 3}, {steps(1, -3, 10, 7), -21}, {steps(1, 7, 11, 2), 4}, {steps(1, -7, 11, 2), -4}, {steps(1, 7, 11, 3), 2}, {steps(1, 8, 11, 3), 3}, {steps(1, 7, 11, 1), 7},
		{steps(1, 3, 1, 4, 12, 0), 3}, {steps(1, 4, 1, 3, 12, 0), 3}, {steps(1, 3, 1, 4, 13, 0), 4}, {steps(1, 4, 1, 3, 13, 0), 4}, {steps(1, -3, 1, -4, 12, 0), -4}, {steps(1, -3, 1, -4, 13, 0), -3},
		{steps(1, 10, 1, 20, 1, 5, 9, 0, 9, 0), -5}, {steps(1, 10, 1, 20, 9, 0, 1, 5, 9, 0), -15},
		{steps(14, 0, 1, 2), 2}, {steps(14, 1, 1, 1, 1, 2), 2}, {steps(14, 3, 1, 1, 1, 2, 1, 3, 1, 4), 4},
	} {
		runIs(t, append(c.ops, api.Op{Do: api.OpKeep}), 1, []int{c.want}, 0, api.OK)
	}
	runIs(t, nil, 0, nil, 0, api.OK)
}

// TestJ3Test: the lower one is held against the upper one; where that does not hold, one goes on further on.
func TestJ3Test(t *testing.T) {
	for test, wants := range map[int][3]int{api.TestLess: {7, 8, 8}, api.TestUpto: {7, 7, 8}, api.TestEqual: {8, 7, 8}} {
		for i, pair := range [][2]int{{1, 2}, {2, 2}, {2, 1}} {
			ops := steps(1, pair[0], 1, pair[1], 15, 4*2+test, 1, 7, 14, 1, 1, 8, 16, 0)
			runIs(t, ops, 1, []int{wants[i]}, 0, api.OK)
			runIs(t, append(steps(1, 9, 16, 1), ops...), 2, []int{wants[i], 9}, 0, api.OK)
			runIs(t, steps(1, pair[0], 1, pair[1], 15, test, 1, 7, 16, 0), 1, []int{7}, 0, api.OK)
		}
	}
}

// TestJ3Lines: lines are kept by their places, and asked for as they were kept.
func TestJ3Lines(t *testing.T) {
	runIs(t, steps(1, 5, 16, 1, 3, 1, 3, 1, 8, 0, 16, 0), 2, []int{10, 5}, 0, api.OK)
	runIs(t, steps(1, 5, 1, 6, 1, 7, 16, 1, 16, 2, 16, 0), 3, []int{5, 7, 6}, 0, api.OK)
	var ops []api.Op
	var want []int
	for i := range api.MaxLines {
		ops = append(ops, steps(1, i+1, 16, api.MaxLines-1-i)...)
		want = append(want, api.MaxLines-i)
	}
	runIs(t, ops, api.MaxLines, want, 0, api.OK)
}

// TestJ3Range: the place is that of the step that comes to no money; what is not done may come to anything.
func TestJ3Range(t *testing.T) {
	const most = api.MaxMoney
	for _, c := range []struct {
		ops []api.Op
		at  int
	}{
		{steps(1, most, 1, 1, 8, 0), 2}, {steps(1, -most, 1, -1, 8, 0), 2}, {steps(1, -most, 1, 1, 9, 0), 2}, {steps(1, most, 1, -most, 9, 0), 2},
		{steps(1, most, 10, 2), 1}, {steps(1, -most, 10, api.MaxRate), 1}, {steps(1, most/2+1, 10, 2), 1},
		{steps(1, most, 5, 10001), 1}, {steps(1, -most, 5, api.MaxRate), 1},
		{steps(1, 1, 1, most, 10, 3, 8, 0), 2}, {steps(1, 1, 1, most, 10, 2, 12, 0), 2}, {steps(1, most, 10, 2, 11, 2), 1},
		{steps(14, 1, 1, 5, 1, most, 10, 2), 3},
		{steps(1, 1, 1, 2, 15, 9, 2, 1, 14, 1, 1, 1, 10, 2), 6},
		{steps(1, 2, 1, 1, 15, 9, 1, 1, 14, 1, 2, 1, 10, 2), 6},
	} {
		runIs(t, append(c.ops, api.Op{Do: api.OpKeep}), 1, nil, c.at, api.ErrRange)
		runIs(t, append(append(steps(1, 7, 16, 1), c.ops...), api.Op{Do: api.OpKeep}), 2, nil, c.at+2, api.ErrRange)
		runIs(t, append(append(steps(14, len(c.ops)), c.ops...), steps(1, 7, 16, 0)...), 1, []int{7}, 0, api.OK)
	}
	for _, c := range []struct {
		ops  []api.Op
		want int
	}{
		{steps(1, most-1, 1, 1, 8, 0), most}, {steps(1, -most+1, 1, 1, 9, 0), -most}, {steps(1, most/2, 10, 2), most}, {steps(1, -most/2, 10, 2), -most}, {steps(1, most, 5, 10000), most}, {steps(1, most/100, 5, api.MaxRate), most},
	} {
		runIs(t, append(c.ops, api.Op{Do: api.OpKeep}), 1, []int{c.want}, 0, api.OK)
	}
}

// TestJ3Run: what drawn programs come to is what is done by hand; and (J4) none does more steps than it has.
func TestJ3Run(t *testing.T) {
	d := draw(29)
	told := map[api.Errno]int{}
	for range 60000 {
		ops, lines := drawOps(&d)
		if _, err := Check(ops, lines, house()); err != api.OK {
			continue
		}
		want, at, err, done := runByHand(ops, lines, house())
		told[err]++
		if done > len(ops) {
			t.Errorf("%v: %d steps done", ops, done)
		}
		runIs(t, ops, lines, want, at, err)
	}
	if told[api.OK] < 2000 || told[api.ErrRange] < 500 {
		t.Errorf("too few of a kind: %v", told)
	}
}

// TestJ4Long: programs with MaxOps steps end, whether all of them are done, or hardly any.
func TestJ4Long(t *testing.T) {
	jumps := make([]api.Op, api.MaxOps)
	for i := range jumps {
		jumps[i].Do = api.OpJump
	}
	runIs(t, jumps, 0, nil, 0, api.OK)
	jumps[0].Number = api.MaxOps - 1
	runIs(t, jumps, 0, nil, 0, api.OK)
	var tests, pile []api.Op
	for i := range api.MaxOps/3 - 1 {
		tests = append(tests, steps(1, i%2, 1, 1, 15, 1+i%3)...)
	}
	runIs(t, append(tests, steps(1, 5, 16, 0)...), 1, []int{5}, 0, api.OK)
	for range api.MaxOps / 2 {
		pile = append(pile, steps(1, 2)...)
	}
	for range api.MaxOps/2 - 1 {
		pile = append(pile, steps(8, 0)...)
	}
	runIs(t, append(pile, steps(16, 0)...), 1, []int{api.MaxOps}, 0, api.OK)
}

// TestP2: what is handed in is only read, and what comes out is the caller's.
func TestP2(t *testing.T) {
	text := "let a = pay; let b = a + table t of a; let c = if a < b then max(b, year c) else 1;"
	room := append(parsed(t, text), let("spare", number(1)))
	k := house()
	ops, err := Make(room[:3], k)
	if err != api.OK {
		t.Fatalf("Make: %d", err)
	}
	kept := slices.Clone(ops)
	for range 2 {
		runIs(t, ops, 3, []int{250000, 290750, 290750}, 0, api.OK)
		values, _, _ := Run(ops, 3, k)
		clear(values[:cap(values)])
	}
	if again, _ := Make(room[:3], k); !slices.Equal(ops, kept) || !slices.Equal(again, kept) {
		t.Errorf("steps became %v, and %v", ops, again)
	}
	clear(ops[:cap(ops)])
	if again, _ := Make(room[:3], k); !slices.Equal(again, kept) {
		t.Errorf("Make = %v", again)
	}
	if !reflect.DeepEqual(k, house()) || !reflect.DeepEqual(room[:3], parsed(t, text)) || !reflect.DeepEqual(room[3], let("spare", number(1))) {
		t.Errorf("what was handed in became %v and %v", room, k)
	}
}

// TestP1: Kids without end are ErrMany.
func TestP1(t *testing.T) {
	ring := of(api.ExprMinus, 0, api.Expr{})
	ring.Kids[0] = ring
	wide := number(1)
	for range 60 {
		wide = of(api.ExprPlus, 0, wide, wide)
	}
	for _, e := range []api.Expr{ring, wide, of(api.ExprIf, 1, number(1), number(2), number(3), ring)} {
		if ops, err := Make([]api.Line{let("a", number(1)), let("b", e)}, house()); len(ops) > 0 || err != api.ErrMany {
			t.Errorf("Make = %v, %d", ops, err)
		}
	}
}

// FuzzRun: whatever bytes say as steps is checked as all ways through it say, and run as by hand.
func FuzzRun(f *testing.F) {
	f.Add([]byte{1, 5, 16, 0}, 1)
	f.Add([]byte{1, 1, 1, 2, 15, 9, 1, 7, 14, 1, 1, 8, 16, 0}, 1)
	f.Add([]byte{2, 1, 10, 2, 16, 0, 3, 0, 16, 1}, 2)
	f.Fuzz(func(t *testing.T, b []byte, lines int) {
		if len(b) > 40 || lines < 0 || lines > api.MaxLines {
			return
		}
		var ops []api.Op
		for i := 0; i+1 < len(b); i += 2 {
			ops = append(ops, api.Op{Do: int(b[i]), Number: int(int8(b[i+1]))})
		}
		want, err := checkByWays(ops, lines, house())
		checkIs(t, ops, lines, house(), want, err)
		if err != api.OK {
			return
		}
		values, at, err, _ := runByHand(ops, lines, house())
		runIs(t, ops, lines, values, at, err)
	})
}
