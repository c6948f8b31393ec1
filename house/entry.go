package house

import (
	"slices"

	"paycycle/api"
	"paycycle/ledger"
)

const minPostings = 2

// signOf a total's name: 1, if an `earn` line has it; -1, if another one that is no `let` does; 0, if none.
func signOf(l []api.Line, name string) int {
	sign := 0
	for _, line := range l {
		switch {
		case line.Name != name || line.Kind == api.LineLet:
		case line.Kind == api.LineEarn:
			return 1
		default:
			sign = -1
		}
	}
	return sign
}

// hasStrange: has a slip a total that is no line's?
func hasStrange(l []api.Line, s api.Slip) bool {
	return slices.ContainsFunc(s.Totals, func(a api.Amount) bool { return signOf(l, a.Name) == 0 })
}

// net of a slip without strange totals. It may be more than money may be.
func net(l []api.Line, s api.Slip) int {
	all := 0
	for _, a := range s.Totals {
		all += signOf(l, a.Name) * a.Money
	}
	return all
}

// entry of a slip that checkWith lets pass; false, if it has none. One that is void has nothing to be posted.
func entry(c api.Company, s api.Slip) (api.Entry, bool, api.Errno) {
	if s.Gone {
		return api.Entry{}, false, api.OK
	}
	e := api.Entry{Day: c.Today}
	for _, a := range s.Totals {
		e.Postings = append(e.Postings, api.Posting{Account: a.Name, Money: signOf(c.Lines, a.Name) * a.Money})
	}
	if paid := net(c.Lines, s); paid != 0 {
		e.Postings = append(e.Postings, api.Posting{Account: cash, Money: -paid})
	}
	if len(e.Postings) < minPostings {
		return api.Entry{}, false, api.OK
	}
	if err := ledger.Check([]api.Entry{e}); err != api.OK {
		return api.Entry{}, false, err
	}
	return e, true, api.OK
}

// entriesOf slips, those that have one. All are made ahead of any that is posted, for their errors go ahead.
func entriesOf(c api.Company, slips []api.Slip) ([]api.Entry, api.Errno) {
	var entries []api.Entry
	for _, s := range slips {
		e, some, err := entry(c, s)
		if err != api.OK {
			return nil, err
		}
		if some {
			entries = append(entries, e)
		}
	}
	return entries, api.OK
}

// turnsOf the entries of slips by their numbers, as they stand in a company.
func turnsOf(c api.Company, numbers []int) ([]api.Entry, api.Errno) {
	var slips []api.Slip
	for _, number := range numbers {
		at := slices.IndexFunc(c.Slips, func(s api.Slip) bool { return s.Number == number })
		slips = append(slips, c.Slips[at])
	}
	entries, err := entriesOf(c, slips)
	if err != api.OK {
		return nil, err
	}
	var turns []api.Entry
	for _, e := range entries {
		turned, err := ledger.Turn(e)
		if err != api.OK {
			return nil, err
		}
		turns = append(turns, turned)
	}
	return turns, api.OK
}
