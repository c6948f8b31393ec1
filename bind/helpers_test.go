package bind

import (
	"testing"

	"paycycle/api"
	"paycycle/rules"
)

// draw makes small numbers, the same each time.
type draw uint64

func (d *draw) below(n int) int {
	*d = *d*6364136223846793005 + 1442695040888963407
	return int(uint64(*d) >> 33 % uint64(n))
}

func (d *draw) oneOf(texts ...string) string { return texts[d.below(len(texts))] }

func amount(name string, n int) api.Amount { return api.Amount{Name: name, Money: n} }

func table(name string) api.Table {
	return api.Table{Name: name, Brackets: []api.Bracket{{From: 0, Rate: 1}}}
}

func number(n int) api.Expr       { return api.Expr{Kind: api.ExprNumber, Number: n} }
func named(name string) api.Expr  { return api.Expr{Kind: api.ExprName, Name: name} }
func yearOf(name string) api.Expr { return api.Expr{Kind: api.ExprYear, Name: name} }

func tableOf(name string, e api.Expr) api.Expr {
	return api.Expr{Kind: api.ExprTable, Name: name, Kids: []api.Expr{e}}
}

func of(kind int, kids ...api.Expr) api.Expr { return api.Expr{Kind: kind, Kids: kids} }

func let(name string, e api.Expr) api.Line {
	return api.Line{Kind: api.LineLet, Name: name, Expr: e}
}

// around: an expression alone, and as each Kid of each kind of those that have some.
func around(e api.Expr) []api.Expr {
	one := number(1)
	all := []api.Expr{e, of(api.ExprMinus, e), of(api.ExprMinus, of(api.ExprMinus, e)), tableOf("t", e)}
	for kind, least := range map[int]int{api.ExprRate: 0, api.ExprTimes: 1, api.ExprOver: 1} {
		all = append(all, api.Expr{Kind: kind, Number: least, Kids: []api.Expr{e}})
	}
	for _, kind := range []int{api.ExprPlus, api.ExprLess, api.ExprMin, api.ExprMax} {
		all = append(all, of(kind, e, one), of(kind, one, e))
	}
	for i := range 4 {
		kids := []api.Expr{one, one, one, one}
		kids[i] = e
		all = append(all, api.Expr{Kind: api.ExprIf, Number: api.TestLess, Kids: kids})
	}
	return all
}

// parsed has the lines of a text of rules.
func parsed(t *testing.T, s string) []api.Line {
	t.Helper()
	l, fault := rules.Parse(s)
	if fault != (api.Fault{}) {
		t.Fatalf("Parse(%q): %v", s, fault)
	}
	return l
}

// knownOf has inputs, tables and years by their names.
func knownOf(inputs, tables, years []string) api.Known {
	var k api.Known
	for _, name := range inputs {
		k.Inputs = append(k.Inputs, amount(name, 7))
	}
	for _, name := range tables {
		k.Tables = append(k.Tables, table(name))
	}
	for _, name := range years {
		k.Years = append(k.Years, amount(name, 7))
	}
	return k
}

// rising has so many names, each above the one ahead of it.
func rising(n int) []string {
	var l []string
	for i := range n {
		l = append(l, string([]byte{'a' + byte(i/26), 'a' + byte(i%26)}))
	}
	for i, name := range l {
		if name == "if" || name == "of" {
			l[i] += "a"
		}
	}
	return l
}

// sharedWithoutEnd: Kids that hold themselves, and Kids that so many share that nobody could go through all of them.
func sharedWithoutEnd() []api.Expr {
	ring := of(api.ExprMinus, api.Expr{})
	ring.Kids[0] = ring
	wide := of(api.ExprPlus, api.Expr{}, api.Expr{})
	wide.Kids[0], wide.Kids[1] = wide, wide
	deep := named("a")
	for range 60 {
		deep = of(api.ExprPlus, deep, deep)
	}
	return []api.Expr{ring, wide, deep, of(api.ExprPlus, number(1), ring)}
}
