package value

import (
	"math/big"
	"testing"

	"paycycle/api"
	"paycycle/rules"
)

// draw makes small numbers, the same each time.
type draw uint64

func (d *draw) below(n int) int {
	*d = *d*6364136223846793005 + 1442695040888963407
	return int(uint64(*d) >> 33 % uint64(n))
}

func oneOf[T any](d *draw, things ...T) T { return things[d.below(len(things))] }

func number(n int) api.Expr       { return api.Expr{Kind: api.ExprNumber, Number: n} }
func named(name string) api.Expr  { return api.Expr{Kind: api.ExprName, Name: name} }
func yearOf(name string) api.Expr { return api.Expr{Kind: api.ExprYear, Name: name} }

func of(kind, number int, kids ...api.Expr) api.Expr {
	return api.Expr{Kind: kind, Number: number, Kids: kids}
}

func tableOf(name string, e api.Expr) api.Expr {
	return api.Expr{Kind: api.ExprTable, Name: name, Kids: []api.Expr{e}}
}

func let(name string, e api.Expr) api.Line {
	return api.Line{Kind: api.LineLet, Name: name, Expr: e}
}

// parsed has the lines of a text of rules.
func parsed(t *testing.T, s string) []api.Line {
	t.Helper()
	l, fault := rules.Parse(s)
	if fault != (api.Fault{}) {
		t.Fatalf("Parse(%q): %v", s, fault)
	}
	return l
}

// house is what is known in these tests: `most` and `least` are all the money that there may be, `t` has 10 % and, above 1000.00, 20.50 %.
func house() api.Known {
	return api.Known{
		Inputs: []api.Amount{{Name: "hours", Money: 4000}, {Name: "least", Money: -api.MaxMoney}, {Name: "loss", Money: -12345}, {Name: "most", Money: api.MaxMoney}, {Name: "nought"}, {Name: "pay", Money: 250000}},
		Tables: []api.Table{
			{Name: "all", Brackets: []api.Bracket{{From: 0, Rate: 10000}}},
			{Name: "t", Brackets: []api.Bracket{{From: 0, Rate: 1000}, {From: 100000, Rate: 2050}}},
		},
		Years: []api.Amount{{Name: "a", Money: 777}, {Name: "b", Money: -5}, {Name: "pay", Money: 9}, {Name: "z", Money: api.MaxMoney}},
	}
}

// wholeOf reckons without bounds, and in fractions, what an expression comes to; false: something that is looked at is no money.
func wholeOf(e api.Expr, came map[string]*big.Int, k api.Known) (*big.Int, bool) {
	if e.Kind == api.ExprIf {
		first, ok := wholeOf(e.Kids[0], came, k)
		second, ok2 := wholeOf(e.Kids[1], came, k)
		if !ok || !ok2 {
			return nil, false
		}
		order := first.Cmp(second)
		if map[int]bool{1: order < 0, 2: order <= 0, 3: order == 0}[e.Number] {
			return wholeOf(e.Kids[2], came, k)
		}
		return wholeOf(e.Kids[3], came, k)
	}
	var kids []*big.Int
	for _, kid := range e.Kids {
		n, ok := wholeOf(kid, came, k)
		if !ok {
			return nil, false
		}
		kids = append(kids, n)
	}
	n := nearest(fractionOf(e, kids, came, k))
	return n, n.CmpAbs(big.NewInt(1000000000000)) <= 0
}

// fractionOf: what an expression comes to, ahead of rounding.
func fractionOf(e api.Expr, kids []*big.Int, came map[string]*big.Int, k api.Known) *big.Rat {
	whole := func(n *big.Int) *big.Rat { return new(big.Rat).SetInt(n) }
	parts := func(n *big.Int, number, of int) *big.Rat {
		return new(big.Rat).Mul(whole(n), big.NewRat(int64(number), int64(of)))
	}
	switch e.Kind {
	case api.ExprNumber:
		return big.NewRat(int64(e.Number), 1)
	case api.ExprName:
		return whole(came[e.Name])
	case api.ExprYear:
		for _, y := range k.Years {
			if y.Name == e.Name {
				return big.NewRat(int64(y.Money), 1)
			}
		}
		return new(big.Rat)
	case api.ExprRate:
		return parts(kids[0], e.Number, 10000)
	case api.ExprTimes:
		return parts(kids[0], e.Number, 1)
	case api.ExprOver:
		return parts(kids[0], 1, e.Number)
	case api.ExprTable:
		return taxOf(e.Name, kids[0], k)
	case api.ExprMinus:
		return whole(new(big.Int).Neg(kids[0]))
	case api.ExprPlus:
		return whole(new(big.Int).Add(kids[0], kids[1]))
	case api.ExprLess:
		return whole(new(big.Int).Sub(kids[0], kids[1]))
	}
	if (e.Kind == api.ExprMin) == (kids[0].Cmp(kids[1]) < 0) {
		return whole(kids[0])
	}
	return whole(kids[1])
}

// taxOf: each bracket has its rate of all above its From, less what the one ahead of it had of that.
func taxOf(name string, base *big.Int, k api.Known) *big.Rat {
	sum := new(big.Rat)
	for _, t := range k.Tables {
		rate := 0
		for _, b := range t.Brackets {
			above := new(big.Int).Sub(base, big.NewInt(int64(b.From)))
			if t.Name == name && above.Sign() > 0 {
				sum.Add(sum, new(big.Rat).Mul(new(big.Rat).SetInt(above), big.NewRat(int64(b.Rate-rate), 10000)))
			}
			rate = b.Rate
		}
	}
	return sum
}

// nearest whole number, halves away from 0.
func nearest(r *big.Rat) *big.Int {
	twice := new(big.Int).Mul(new(big.Int).Abs(r.Num()), big.NewInt(2))
	twice.Add(twice, r.Denom())
	n := twice.Quo(twice, new(big.Int).Mul(r.Denom(), big.NewInt(2)))
	if r.Sign() < 0 {
		n.Neg(n)
	}
	return n
}

// linesByFractions: what lines come to whose names all mean something.
func linesByFractions(l []api.Line, k api.Known) ([]int, int, api.Errno) {
	came := map[string]*big.Int{}
	for _, a := range k.Inputs {
		came[a.Name] = big.NewInt(int64(a.Money))
	}
	var values []int
	for at, line := range l {
		n, ok := wholeOf(line.Expr, came, k)
		if !ok {
			return nil, at, api.ErrRange
		}
		came[line.Name] = n
		values = append(values, int(n.Int64()))
	}
	return values, 0, api.OK
}

// drawExpr has no names but those that mean something.
func drawExpr(d *draw, deep int, values, lines []string) api.Expr {
	kind := 1 + d.below(3)
	if deep > 1 && d.below(4) > 0 {
		kind = 1 + d.below(api.ExprIf)
	}
	kids := func(n int) []api.Expr {
		var l []api.Expr
		for range n {
			l = append(l, drawExpr(d, deep-1, values, lines))
		}
		return l
	}
	switch kind {
	case api.ExprNumber:
		return number(oneOf(d, 0, 1, 2, 49, 50, 51, 149, 150, 151, 100000, 100001, d.below(1000000), api.MaxMoney/2, api.MaxMoney-1, api.MaxMoney))
	case api.ExprName:
		return named(oneOf(d, values...))
	case api.ExprYear:
		return yearOf(oneOf(d, lines...))
	case api.ExprTable:
		return tableOf(oneOf(d, "all", "t"), kids(1)[0])
	case api.ExprRate:
		return of(kind, oneOf(d, 0, 1, 99, 100, 2500, 5000, 9999, 10000, 10001, d.below(10000), api.MaxRate), kids(1)...)
	case api.ExprTimes, api.ExprOver:
		return of(kind, oneOf(d, 1, 2, 3, 4, 100, 999, 1+d.below(1000), api.MaxRate), kids(1)...)
	case api.ExprMinus:
		return of(kind, 0, kids(1)...)
	case api.ExprIf:
		return of(kind, 1+d.below(3), kids(4)...)
	}
	return of(kind, 0, kids(2)...)
}

// drawLines has up to six lines, whose names all mean something in house.
func drawLines(d *draw) []api.Line {
	values := []string{"hours", "least", "loss", "most", "nought", "pay"}
	lines := []string{"c", "b", "z", "a", "d", "y"}[:1+d.below(6)]
	var l []api.Line
	for _, name := range lines {
		l = append(l, api.Line{Kind: 1 + d.below(4), Name: name, Expr: drawExpr(d, 1+d.below(4), values, lines)})
		values = append(values, name)
	}
	return l
}
