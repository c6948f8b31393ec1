package house

import (
	"paycycle/api"
	"paycycle/calendar"
	"paycycle/names"
	"paycycle/period"
	"paycycle/retro"
	"paycycle/take"
)

// outcome of reckoning a person.
type outcome struct {
	totals []api.Amount
	err    api.Errno
}

// reckon the slips of a company that Check lets pass.
func reckon(c api.Company) ([]api.Slip, api.Errno) {
	number := 0
	if len(c.Slips) > 0 {
		number = c.Slips[len(c.Slips)-1].Number
	}
	var slips []api.Slip
	for i, came := range outcomes(c) {
		switch {
		case came.err != api.OK:
			return nil, came.err
		case len(came.totals) > 0:
			number++
			slips = append(slips, api.Slip{Number: number, Person: c.Persons[i].Number, Run: c.Number, Totals: came.totals})
		}
	}
	if len(c.Slips)+len(slips) > api.MaxSlips || number > api.MaxPersons {
		return nil, api.ErrMany
	}
	return slips, api.OK
}

// outcomes of all persons, in their order: each is sent through a channel of its own, so that who is first done does not matter, and nobody is left at work.
func outcomes(c api.Company) []outcome {
	first := firstOfYear(c.Schedule, c.Period)
	var sent []chan outcome
	for _, p := range c.Persons {
		one := make(chan outcome)
		sent = append(sent, one)
		go func() { one <- reckonPerson(c, plan(c, p), first) }()
	}
	var all []outcome
	for _, one := range sent {
		all = append(all, <-one)
	}
	return all
}

// firstOfYear: the number of the first period that begins in the same year as one that there is.
func firstOfYear(s api.Schedule, k int) int {
	year := yearOf(s, k)
	for k > 0 && yearOf(s, k-1) == year {
		k--
	}
	return k
}

// yearOf is asked only of periods that there are.
func yearOf(s api.Schedule, k int) int {
	days, _ := period.At(s, k)
	date, _ := calendar.Civil(days.From)
	return date.Year
}

func reckonPerson(c api.Company, p api.Plan, first int) outcome {
	periods, err := retro.Fresh(p, first, c.Period, c.Today)
	if err != api.OK {
		return outcome{err: err}
	}
	values := periods[len(periods)-1]
	got, _, err := take.All(gross(c.Lines, values), 0, claims(c.Lines, values))
	if err != api.OK { // there are not too many claims, and each is money: it is the gross
		return outcome{err: err}
	}
	return outcome{totals: totals(c.Lines, values, got)}
}

func gross(l []api.Line, values []int) int {
	all := 0
	for i, line := range l {
		if line.Kind == api.LineEarn {
			all += values[i]
		}
	}
	return all
}

func isClaim(l api.Line) bool { return l.Kind == api.LineTake || l.Kind == api.LineTax }

func claims(l []api.Line, values []int) []api.Claim {
	var all []api.Claim
	for i, line := range l {
		if isClaim(line) {
			all = append(all, api.Claim{Want: max(0, values[i]), Cap: -1})
		}
	}
	return all
}

// totals of a slip: what was earned, and what the claims got, which come as their lines do.
func totals(l []api.Line, values []int, got []api.Taken) []api.Amount {
	byName := make(map[string]int, len(l))
	for i, line := range l {
		switch {
		case line.Kind == api.LineEarn:
			byName[line.Name] = values[i]
		case isClaim(line):
			byName[line.Name] = got[0].Now
			got = got[1:]
		}
	}
	return names.Amounts(byName)
}
