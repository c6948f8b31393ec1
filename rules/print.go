package rules

import (
	"strconv"
	"strings"

	"paycycle/api"
	"paycycle/money"
)

// Print lines.
func Print(l []api.Line) (string, api.Errno) {
	if err := Check(l); err != api.OK {
		return "", err
	}
	var p printer
	for _, line := range l {
		p.tokens(lineWords[line.Kind], line.Name, "=")
		p.expression(line.Expr)
		p.WriteString(";\n")
	}
	if p.Len() > api.MaxRules {
		return "", api.ErrMany
	}
	return p.String(), api.OK
}

// printer of lines that Check has found right.
type printer struct{ strings.Builder }

// tokens each have their blank behind them: what comes last in a line, its `;`, is no matter of theirs.
func (p *printer) tokens(texts ...string) {
	for _, text := range texts {
		p.WriteString(text)
		p.WriteByte(' ')
	}
}

func (p *printer) expression(e api.Expr) {
	switch e.Kind {
	case api.ExprNumber:
		p.tokens(hundredths(e.Number))
	case api.ExprName:
		p.tokens(e.Name)
	case api.ExprYear:
		p.tokens("year", e.Name)
	case api.ExprRate:
		p.tokens(hundredths(e.Number), "%", "of")
		p.inner(e.Kids[0])
	case api.ExprTable:
		p.tokens("table", e.Name, "of")
		p.inner(e.Kids[0])
	case api.ExprMinus:
		p.tokens("-")
		p.inner(e.Kids[0])
	case api.ExprPlus:
		p.sides(e, "+")
	case api.ExprLess:
		p.sides(e, "-")
	case api.ExprTimes:
		p.inner(e.Kids[0])
		p.tokens("*", strconv.Itoa(e.Number))
	case api.ExprOver:
		p.inner(e.Kids[0])
		p.tokens("/", strconv.Itoa(e.Number))
	case api.ExprMin:
		p.both(e, "min")
	case api.ExprMax:
		p.both(e, "max")
	case api.ExprIf:
		p.choice(e)
	}
}

// hundredths is asked only of what Check has found to be money from 0 on.
func hundredths(n int) string {
	text, _ := money.Print(n)
	return text
}

// inner: an expression where a part must stand, so that those that are none stand in brackets.
func (p *printer) inner(e api.Expr) {
	switch e.Kind {
	case api.ExprPlus, api.ExprLess, api.ExprTimes, api.ExprOver, api.ExprIf:
		p.tokens("(")
		p.expression(e)
		p.tokens(")")
	default:
		p.expression(e)
	}
}

func (p *printer) sides(e api.Expr, sign string) {
	p.inner(e.Kids[0])
	p.tokens(sign)
	p.inner(e.Kids[1])
}

func (p *printer) both(e api.Expr, word string) {
	p.tokens(word, "(")
	p.expression(e.Kids[0])
	p.tokens(",")
	p.expression(e.Kids[1])
	p.tokens(")")
}

func (p *printer) choice(e api.Expr) {
	p.tokens("if")
	p.sides(e, testSigns[e.Number])
	p.tokens("then")
	p.expression(e.Kids[2])
	p.tokens("else")
	p.expression(e.Kids[3])
}
