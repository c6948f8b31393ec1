package rules

import (
	"slices"
	"testing"

	"paycycle/api"
)

// draw makes small numbers, the same each time.
type draw uint64

func (d *draw) below(n int) int {
	*d = *d*6364136223846793005 + 1442695040888963407
	return int(uint64(*d) >> 33 % uint64(n))
}

func number(n int) api.Expr       { return api.Expr{Kind: api.ExprNumber, Number: n} }
func named(name string) api.Expr  { return api.Expr{Kind: api.ExprName, Name: name} }
func yearOf(name string) api.Expr { return api.Expr{Kind: api.ExprYear, Name: name} }

func rate(n int, e api.Expr) api.Expr {
	return api.Expr{Kind: api.ExprRate, Number: n, Kids: []api.Expr{e}}
}

func tableOf(name string, e api.Expr) api.Expr {
	return api.Expr{Kind: api.ExprTable, Name: name, Kids: []api.Expr{e}}
}

func times(e api.Expr, n int) api.Expr {
	return api.Expr{Kind: api.ExprTimes, Number: n, Kids: []api.Expr{e}}
}

func over(e api.Expr, n int) api.Expr {
	return api.Expr{Kind: api.ExprOver, Number: n, Kids: []api.Expr{e}}
}

func minus(e api.Expr) api.Expr { return of(api.ExprMinus, e) }

func plus(a, b api.Expr) api.Expr { return of(api.ExprPlus, a, b) }

func less(a, b api.Expr) api.Expr { return of(api.ExprLess, a, b) }

func of(kind int, kids ...api.Expr) api.Expr { return api.Expr{Kind: kind, Kids: kids} }

func choice(test int, kids ...api.Expr) api.Expr {
	return api.Expr{Kind: api.ExprIf, Number: test, Kids: kids}
}

func letA(e api.Expr) []api.Line { return []api.Line{{Kind: api.LineLet, Name: "a", Expr: e}} }

// sameExpr takes no Kids and an empty list of them for alike, as P2 does.
func sameExpr(a, b api.Expr) bool {
	return a.Kind == b.Kind && a.Number == b.Number && a.Name == b.Name && slices.EqualFunc(a.Kids, b.Kids, sameExpr)
}

func sameLines(a, b []api.Line) bool {
	return slices.EqualFunc(a, b, func(x, y api.Line) bool { return x.Kind == y.Kind && x.Name == y.Name && sameExpr(x.Expr, y.Expr) })
}

func copyExpr(e api.Expr) api.Expr {
	kids := make([]api.Expr, 0, len(e.Kids))
	for _, kid := range e.Kids {
		kids = append(kids, copyExpr(kid))
	}
	e.Kids = kids
	return e
}

func copyLines(l []api.Line) []api.Line {
	var lines []api.Line
	for _, line := range l {
		line.Expr = copyExpr(line.Expr)
		lines = append(lines, line)
	}
	return lines
}

func isParsed(t *testing.T, s string, want []api.Line) {
	t.Helper()
	if got, fault := Parse(s); !sameLines(got, want) || fault != (api.Fault{}) {
		t.Errorf("Parse(%.80q) = %v, %v; want %v", s, got, fault, want)
	}
}

func faultIs(t *testing.T, s string, err api.Errno, at int) {
	t.Helper()
	if got, fault := Parse(s); len(got) != 0 || fault != (api.Fault{Err: err, At: at}) {
		t.Errorf("Parse(%.80q) = %v, %v; want a fault %d at %d", s, got, fault, err, at)
	}
}

// rulesOf has texts and lines that are what they say, drawn together: what is drawn as a part, a product, a sum or an expression may stand where the chapter asks for one.
type rulesOf struct {
	*draw
	tokens []string
}

func (r *rulesOf) say(texts ...string) { r.tokens = append(r.tokens, texts...) }

func (r *rulesOf) oneOf(texts ...string) string { return texts[r.below(len(texts))] }

func (r *rulesOf) someName() string { return r.oneOf("a", "b", "pay", "abcdefgh", "earns", "x") }

func (r *rulesOf) expression(deep int) api.Expr {
	if deep == 0 || r.below(3) > 0 {
		return r.sum(deep)
	}
	r.say("if")
	left := r.sum(deep - 1)
	test := 1 + r.below(3)
	r.say([]string{"<", "<=", "="}[test-1])
	right := r.sum(deep - 1)
	r.say("then")
	yes := r.expression(deep - 1)
	r.say("else")
	no := r.expression(deep - 1)
	return choice(test, left, right, yes, no)
}

func (r *rulesOf) sum(deep int) api.Expr {
	e := r.product(deep)
	for deep > 0 && r.below(3) == 0 {
		kind := api.ExprPlus + r.below(2)
		r.say([]string{"+", "-"}[kind-api.ExprPlus])
		e = of(kind, e, r.product(deep-1))
	}
	return e
}

func (r *rulesOf) product(deep int) api.Expr {
	e := r.part(deep)
	for r.below(4) == 0 {
		if r.below(2) == 0 {
			r.say("*", "7")
			e = times(e, 7)
		} else {
			r.say("/", "1000000")
			e = over(e, api.MaxRate)
		}
	}
	return e
}

func (r *rulesOf) part(deep int) api.Expr {
	kind := r.below(9)
	if deep == 0 {
		kind = r.below(3)
	}
	switch kind {
	case 0:
		i := r.below(5)
		r.say([]string{"0", "12", "12.50", "0.07", "10000000000"}[i])
		return number([]int{0, 1200, 1250, 7, api.MaxMoney}[i])
	case 1:
		name := r.someName()
		r.say(name)
		return named(name)
	case 2:
		name := r.someName()
		r.say("year", name)
		return yearOf(name)
	case 3:
		i := r.below(3)
		r.say([]string{"0", "2.50", "10000"}[i], "%", "of")
		return rate([]int{0, 250, api.MaxRate}[i], r.part(deep-1))
	case 4:
		name := r.someName()
		r.say("table", name, "of")
		return tableOf(name, r.part(deep-1))
	case 5:
		r.say("-")
		return minus(r.part(deep - 1))
	case 6, 7:
		r.say([]string{"min", "max"}[kind-6], "(")
		left := r.expression(deep - 1)
		r.say(",")
		right := r.expression(deep - 1)
		r.say(")")
		return of(api.ExprMin+kind-6, left, right)
	}
	r.say("(")
	e := r.expression(deep - 1)
	r.say(")")
	return e
}

func (r *rulesOf) lines() []api.Line {
	r.tokens = nil
	var lines []api.Line
	for range r.below(4) {
		kind := 1 + r.below(4)
		name := r.someName()
		r.say([]string{"earn", "take", "tax", "let"}[kind-1], name, "=")
		lines = append(lines, api.Line{Kind: kind, Name: name, Expr: r.expression(r.below(5))})
		r.say(";")
	}
	return lines
}

// spread lays the tokens out, with what may stand between them, and tells where each of them begins, and the end.
func (r *rulesOf) spread() (string, []int) {
	s := ""
	var places []int
	for _, text := range r.tokens {
		s += r.oneOf(" ", "\n", "\t", " # if ;\n", "  ")
		places = append(places, len(s))
		s += text
	}
	s += r.oneOf("", " ", "\n", "# the end")
	return s, append(places, len(s))
}
