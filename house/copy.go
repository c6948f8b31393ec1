package house

import (
	"slices"

	"paycycle/api"
)

// copied shares no list with the company that it was made of, nor do two lists of it share any. It is asked of what Check lets pass, in which expressions have an end.
func copied(c api.Company) api.Company {
	c.Lines = copies(c.Lines, copiedLine)
	c.Tables = copies(c.Tables, copiedTable)
	c.Persons = copies(c.Persons, copiedPerson)
	c.Slips = copies(c.Slips, copiedSlip)
	c.Journal = copies(c.Journal, copiedEntry)
	return c
}

// copies of all things of a list, in a list of their own.
func copies[T any](l []T, copied func(T) T) []T {
	fresh := make([]T, 0, len(l))
	for _, thing := range l {
		fresh = append(fresh, copied(thing))
	}
	return fresh
}

func copiedLine(l api.Line) api.Line {
	l.Expr = copiedExpr(l.Expr)
	return l
}

func copiedExpr(e api.Expr) api.Expr {
	e.Kids = copies(e.Kids, copiedExpr)
	return e
}

func copiedTable(t api.Table) api.Table {
	t.Brackets = slices.Clone(t.Brackets)
	return t
}

func copiedPerson(p api.Person) api.Person {
	p.Inputs = copies(p.Inputs, copiedInput)
	return p
}

func copiedInput(in api.Input) api.Input {
	in.Rows = slices.Clone(in.Rows)
	return in
}

func copiedSlip(s api.Slip) api.Slip {
	s.Totals = slices.Clone(s.Totals)
	return s
}

func copiedEntry(e api.Entry) api.Entry {
	e.Postings = slices.Clone(e.Postings)
	return e
}
