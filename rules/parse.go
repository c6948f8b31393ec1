package rules

import (
	"paycycle/api"
	"paycycle/token"
)

// Parse a text.
func Parse(s string) ([]api.Line, api.Fault) {
	tokens, fault := token.Split(s)
	if fault.Err != api.OK {
		return nil, fault
	}
	end := api.Token{At: len(s)} // of no kind, so that nothing takes it, and all that miss something tell the text's end
	return parse(append(tokens, end))
}

// wrong is what is given up with, so that nobody between a fault and parse has to hand it on.
type wrong api.Fault

func giveUp(err api.Errno, at int) { panic(wrong{Err: err, At: at}) }

func parse(tokens []api.Token) (lines []api.Line, fault api.Fault) {
	defer func() {
		if what := recover(); what != nil {
			lines, fault = nil, api.Fault(what.(wrong))
		}
	}()
	p := &parser{tokens: tokens}
	for len(p.tokens) > 1 {
		lines = append(lines, p.line(len(lines)))
	}
	return lines, fault
}

// parser has the tokens that are not taken yet; the end is always among them.
type parser struct{ tokens []api.Token }

func (p *parser) peek() api.Token { return p.tokens[0] }

func (p *parser) next() api.Token {
	t := p.tokens[0]
	p.tokens = p.tokens[1:]
	return t
}

// accept asks for the text alone, for no two kinds of tokens have one in common.
func (p *parser) accept(text string) bool {
	if p.peek().Text != text {
		return false
	}
	p.next()
	return true
}

func (p *parser) expect(text string) {
	if !p.accept(text) {
		giveUp(api.ErrForm, p.peek().At)
	}
}

func (p *parser) expectKind(kind int) api.Token {
	if p.peek().Kind != kind {
		giveUp(api.ErrForm, p.peek().At)
	}
	return p.next()
}

func (p *parser) name() string { return p.expectKind(api.TokenName).Text }

func (p *parser) line(number int) api.Line {
	begin := p.peek()
	kind := lineKind(begin.Text)
	switch {
	case kind == 0:
		giveUp(api.ErrForm, begin.At)
	case number == api.MaxLines:
		giveUp(api.ErrMany, begin.At)
	}
	p.next()
	name := p.name()
	p.expect("=")
	e := p.expression()
	p.expect(";")
	if depth(e) > api.MaxDeep {
		giveUp(api.ErrMany, begin.At)
	}
	return api.Line{Kind: kind, Name: name, Expr: e}
}

func lineKind(text string) int {
	for kind, word := range lineWords {
		if word == text {
			return kind
		}
	}
	return 0
}

func depth(e api.Expr) int {
	deepest := 0
	for _, kid := range e.Kids {
		deepest = max(deepest, depth(kid))
	}
	return deepest + 1
}

func (p *parser) expression() api.Expr {
	if !p.accept("if") {
		return p.sum()
	}
	left := p.sum()
	test := p.test()
	right := p.sum()
	p.expect("then")
	yes := p.expression()
	p.expect("else")
	no := p.expression()
	return api.Expr{Kind: api.ExprIf, Number: test, Kids: []api.Expr{left, right, yes, no}}
}

func (p *parser) test() int {
	t := p.expectKind(api.TokenSign)
	for test, sign := range testSigns {
		if sign == t.Text {
			return test
		}
	}
	giveUp(api.ErrForm, t.At)
	return 0
}

func (p *parser) sum() api.Expr {
	e := p.product()
	for {
		kind := 0
		switch p.peek().Text {
		case "+":
			kind = api.ExprPlus
		case "-":
			kind = api.ExprLess
		default:
			return e
		}
		p.next()
		right := p.product()
		e = api.Expr{Kind: kind, Kids: []api.Expr{e, right}}
	}
}

func (p *parser) product() api.Expr {
	e := p.part()
	for {
		kind := 0
		switch p.peek().Text {
		case "*":
			kind = api.ExprTimes
		case "/":
			kind = api.ExprOver
		default:
			return e
		}
		p.next()
		e = api.Expr{Kind: kind, Number: p.factor(), Kids: []api.Expr{e}}
	}
}

// factor: what stands behind `*` or `/`, as it is written.
func (p *parser) factor() int {
	t := p.expectKind(api.TokenNumber)
	n := t.Number / 100
	switch {
	case t.Point:
		giveUp(api.ErrForm, t.At)
	case n < 1 || n > api.MaxRate:
		giveUp(api.ErrRange, t.At)
	}
	return n
}

func (p *parser) part() api.Expr {
	t := p.peek()
	switch t.Kind {
	case api.TokenNumber:
		return p.numberOrRate()
	case api.TokenName:
		return api.Expr{Kind: api.ExprName, Name: p.name()}
	}
	switch t.Text {
	case "year":
		p.next()
		return api.Expr{Kind: api.ExprYear, Name: p.name()}
	case "table":
		return p.table()
	case "-":
		p.next()
		return api.Expr{Kind: api.ExprMinus, Kids: []api.Expr{p.part()}}
	case "min":
		return p.both(api.ExprMin)
	case "max":
		return p.both(api.ExprMax)
	}
	return p.inBrackets()
}

func (p *parser) numberOrRate() api.Expr {
	t := p.next()
	if !p.accept("%") {
		return api.Expr{Kind: api.ExprNumber, Number: t.Number}
	}
	if t.Number > api.MaxRate {
		giveUp(api.ErrRange, t.At)
	}
	p.expect("of")
	return api.Expr{Kind: api.ExprRate, Number: t.Number, Kids: []api.Expr{p.part()}}
}

func (p *parser) table() api.Expr {
	p.expect("table")
	name := p.name()
	p.expect("of")
	return api.Expr{Kind: api.ExprTable, Name: name, Kids: []api.Expr{p.part()}}
}

// both: two expressions, of which the lesser or the greater one is asked for.
func (p *parser) both(kind int) api.Expr {
	p.next()
	p.expect("(")
	left := p.expression()
	p.expect(",")
	right := p.expression()
	p.expect(")")
	return api.Expr{Kind: kind, Kids: []api.Expr{left, right}}
}

func (p *parser) inBrackets() api.Expr {
	p.expect("(")
	e := p.expression()
	p.expect(")")
	return e
}
