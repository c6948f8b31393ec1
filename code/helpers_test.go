package code

import (
	"math/big"
	"testing"

	"paycycle/api"
	"paycycle/rules"
)

// draw makes small numbers, the same each time.
type draw uint64

func (d *draw) below(n int) int {
	*d = *d*6364136223846793005 + 1442695040888963407
	return int(uint64(*d) >> 33 % uint64(n))
}

func oneOf[T any](d *draw, things ...T) T { return things[d.below(len(things))] }

func number(n int) api.Expr       { return api.Expr{Kind: api.ExprNumber, Number: n} }
func named(name string) api.Expr  { return api.Expr{Kind: api.ExprName, Name: name} }
func yearOf(name string) api.Expr { return api.Expr{Kind: api.ExprYear, Name: name} }

func of(kind, number int, kids ...api.Expr) api.Expr {
	return api.Expr{Kind: kind, Number: number, Kids: kids}
}

func tableOf(name string, e api.Expr) api.Expr {
	return api.Expr{Kind: api.ExprTable, Name: name, Kids: []api.Expr{e}}
}

func let(name string, e api.Expr) api.Line {
	return api.Line{Kind: api.LineLet, Name: name, Expr: e}
}

// nameOf has a name for each number below 400.
func nameOf(i int) string { return string([]byte{'a' + byte(i/20), 'a' + byte(i%20)}) }

// parsed has the lines of a text of rules.
func parsed(t *testing.T, s string) []api.Line {
	t.Helper()
	l, fault := rules.Parse(s)
	if fault != (api.Fault{}) {
		t.Fatalf("Parse(%q): %v", s, fault)
	}
	return l
}

// house is what is known in these tests: three inputs, two tables and four years.
func house() api.Known {
	return api.Known{
		Inputs: []api.Amount{{Name: "loss", Money: -12345}, {Name: "most", Money: api.MaxMoney}, {Name: "pay", Money: 250000}},
		Tables: []api.Table{
			{Name: "all", Brackets: []api.Bracket{{From: 0, Rate: 10000}}},
			{Name: "t", Brackets: []api.Bracket{{From: 0, Rate: 1000}, {From: 100000, Rate: 2050}}},
		},
		Years: []api.Amount{{Name: "a", Money: 777}, {Name: "b", Money: -5}, {Name: "pay", Money: 9}, {Name: "z", Money: api.MaxMoney}},
	}
}

// steps has an op for each two numbers.
func steps(l ...int) []api.Op {
	var ops []api.Op
	for i := 0; i < len(l); i += 2 {
		ops = append(ops, api.Op{Do: l[i], Number: l[i+1]})
	}
	return ops
}

// rooted: as many numbers as a step takes, the step, and what makes a program of one line of it.
func rooted(op api.Op) []api.Op {
	var ops []api.Op
	takes, lays := asWritten(op)
	for range takes {
		ops = append(ops, api.Op{Do: api.OpNumber, Number: 3})
	}
	ops = append(ops, op)
	if lays == 0 {
		ops = append(ops, api.Op{Do: api.OpNumber, Number: 4})
	}
	return append(ops, api.Op{Do: api.OpKeep})
}

// asWritten: what package api says that a step takes and lays down.
func asWritten(op api.Op) (takes, lays int) {
	switch op.Do {
	case api.OpNumber, api.OpInput, api.OpLine, api.OpYear:
		return 0, 1
	case api.OpRate, api.OpTable, api.OpMinus, api.OpTimes, api.OpOver:
		return 1, 1
	case api.OpPlus, api.OpLess, api.OpMin, api.OpMax:
		return 2, 1
	case api.OpTest:
		return 2, 0
	case api.OpKeep:
		return 1, 0
	}
	return 0, 0
}

// numberMayStand asks by lists of where each number goes.
func numberMayStand(ops []api.Op, at, lines int, k api.Known) bool {
	op, behind := ops[at], len(ops)-at-1
	from, to := 0, 0
	switch op.Do {
	case api.OpNumber:
		from, to = -1000000000000, 1000000000000
	case api.OpInput:
		to = len(k.Inputs) - 1
	case api.OpYear:
		to = len(k.Years) - 1
	case api.OpTable:
		to = len(k.Tables) - 1
	case api.OpLine, api.OpKeep:
		to = lines - 1
	case api.OpRate:
		to = 1000000
	case api.OpTimes, api.OpOver:
		from, to = 1, 1000000
	case api.OpJump:
		to = behind
	case api.OpTest:
		from, to = 1, 4*behind+3
		if op.Number&3 == 0 {
			return false
		}
	}
	return op.Number >= from && op.Number <= to
}

// way: one of the ways to come to a step: how many numbers lie there, and which lines are kept.
type way struct {
	deep int
	kept [api.MaxLines]bool
}

// waysTo follows each way from step to step, and tells all that come to a place.
func waysTo(ops []api.Op, at, place int, w way, told func(way)) {
	if at == place {
		told(w)
	}
	if at >= place {
		return
	}
	op := ops[at]
	takes, lays := asWritten(op)
	w.deep += lays - takes
	switch op.Do {
	case api.OpKeep:
		w.kept[op.Number] = true
	case api.OpJump:
		at += op.Number
	case api.OpTest:
		waysTo(ops, at+1+op.Number/4, place, w, told)
	}
	waysTo(ops, at+1, place, w, told)
}

// checkByWays asks of each step all ways to it.
func checkByWays(ops []api.Op, lines int, k api.Known) (int, api.Errno) {
	most := 0
	for at, op := range ops {
		switch {
		case op.Do < 1 || op.Do > 16:
			return 0, api.ErrKind
		case !numberMayStand(ops, at, lines, k):
			return 0, api.ErrRange
		}
		found := map[way]bool{}
		waysTo(ops, 0, at, way{}, func(w way) { found[w] = true })
		for w := range found {
			takes, lays := asWritten(op)
			if len(found) > 1 || w.deep < takes || op.Do == api.OpLine && !w.kept[op.Number] || op.Do == api.OpKeep && w.kept[op.Number] {
				return 0, api.ErrState
			}
			most = max(most, w.deep-takes+lays)
		}
	}
	all := way{}
	for i := range lines {
		all.kept[i] = true
	}
	err := api.OK
	waysTo(ops, 0, len(ops), way{}, func(w way) {
		if w != all {
			err = api.ErrState
		}
	})
	if err != api.OK {
		return 0, err
	}
	return most, api.OK
}

// runByHand does the steps of a program that may be run, without bounds, and tells how many it did.
func runByHand(ops []api.Op, lines int, k api.Known) (values []int, at int, err api.Errno, done int) {
	values = make([]int, lines)
	var pile []*big.Int
	for at < len(ops) {
		done++
		op := ops[at]
		takes, lays := asWritten(op)
		taken := pile[len(pile)-takes:]
		pile = pile[: len(pile)-takes : len(pile)-takes]
		switch op.Do {
		case api.OpJump:
			at += op.Number
		case api.OpTest:
			order := taken[0].Cmp(taken[1])
			if !(order == 0 && op.Number%4 > 1 || order < 0 && op.Number%4 < 3) {
				at += op.Number / 4
			}
		case api.OpKeep:
			values[op.Number] = int(taken[0].Int64())
		}
		if lays > 0 {
			n := laidDown(op, taken, values, k)
			if n.CmpAbs(big.NewInt(1000000000000)) > 0 {
				return nil, at, api.ErrRange, done
			}
			pile = append(pile, n)
		}
		at++
	}
	return values, 0, api.OK, done
}

func laidDown(op api.Op, taken []*big.Int, values []int, k api.Known) *big.Int {
	whole := func(n int) *big.Int { return big.NewInt(int64(n)) }
	switch op.Do {
	case api.OpNumber:
		return whole(op.Number)
	case api.OpInput:
		return whole(k.Inputs[op.Number].Money)
	case api.OpLine:
		return whole(values[op.Number])
	case api.OpYear:
		return whole(k.Years[op.Number].Money)
	case api.OpTable:
		return taxOf(k.Tables[op.Number], taken[0])
	case api.OpRate:
		return nearest(new(big.Int).Mul(taken[0], whole(op.Number)), 10000)
	case api.OpOver:
		return nearest(taken[0], op.Number)
	case api.OpTimes:
		return new(big.Int).Mul(taken[0], whole(op.Number))
	case api.OpMinus:
		return new(big.Int).Neg(taken[0])
	case api.OpPlus:
		return new(big.Int).Add(taken[0], taken[1])
	case api.OpLess:
		return new(big.Int).Sub(taken[0], taken[1])
	}
	if (op.Do == api.OpMin) == (taken[0].Cmp(taken[1]) < 0) {
		return taken[0]
	}
	return taken[1]
}

// taxOf: each bracket has its rate of all above its From, less what the one ahead of it had of that.
func taxOf(t api.Table, base *big.Int) *big.Int {
	sum, rate := new(big.Int), 0
	for _, b := range t.Brackets {
		above := new(big.Int).Sub(base, big.NewInt(int64(b.From)))
		if above.Sign() > 0 {
			sum.Add(sum, above.Mul(above, big.NewInt(int64(b.Rate-rate))))
		}
		rate = b.Rate
	}
	return nearest(sum, 10000)
}

// nearest whole number of a fraction, halves away from 0.
func nearest(n *big.Int, d int) *big.Int {
	twice := new(big.Int).Mul(new(big.Int).Abs(n), big.NewInt(2))
	twice.Add(twice, big.NewInt(int64(d)))
	twice.Quo(twice, big.NewInt(int64(2*d)))
	if n.Sign() < 0 {
		twice.Neg(twice)
	}
	return twice
}

// drawExpr has no names but those that mean something.
func drawExpr(d *draw, deep int, values, lines []string) api.Expr {
	kind := 1 + d.below(3)
	if deep > 1 && d.below(4) > 0 {
		kind = 1 + d.below(api.ExprIf)
	}
	kids := func(n int) []api.Expr {
		var l []api.Expr
		for range n {
			l = append(l, drawExpr(d, deep-1, values, lines))
		}
		return l
	}
	switch kind {
	case api.ExprNumber:
		return number(oneOf(d, 0, 1, 49, 50, 51, 149, 150, 100001, d.below(1000000), api.MaxMoney/2, api.MaxMoney))
	case api.ExprName:
		return named(oneOf(d, values...))
	case api.ExprYear:
		return yearOf(oneOf(d, lines...))
	case api.ExprTable:
		return tableOf(oneOf(d, "all", "t"), kids(1)[0])
	case api.ExprRate:
		return of(kind, oneOf(d, 0, 1, 100, 5000, 10000, 10001, d.below(10000), api.MaxRate), kids(1)...)
	case api.ExprTimes, api.ExprOver:
		return of(kind, oneOf(d, 1, 2, 3, 100, 1+d.below(1000), api.MaxRate), kids(1)...)
	case api.ExprMinus:
		return of(kind, 0, kids(1)...)
	case api.ExprIf:
		return of(kind, 1+d.below(3), kids(4)...)
	}
	return of(kind, 0, kids(2)...)
}

// drawLines has up to so many lines, whose names all mean something in house.
func drawLines(d *draw, most, deep int) []api.Line {
	values := []string{"loss", "most", "pay"}
	lines := []string{"c", "b", "z", "a", "d", "y"}[:1+d.below(most)]
	var l []api.Line
	for _, name := range lines {
		l = append(l, api.Line{Kind: 1 + d.below(4), Name: name, Expr: drawExpr(d, 1+d.below(deep), values, lines)})
		values = append(values, name)
	}
	return l
}
