package period

import (
	"paycycle/api"
	"paycycle/bounds"
	"paycycle/calendar"
	"paycycle/money"
)

// Overlap of two periods.
func Overlap(a, b api.Period) (api.Period, bool) {
	p := api.Period{From: max(a.From, b.From), To: min(a.To, b.To)}
	if p.To < p.From {
		return api.Period{}, false
	}
	return p, true
}

// Prorate an amount.
func Prorate(amount int, p, q api.Period, basis int, holidays []int) (int, api.Errno) {
	switch {
	case basis != api.BasisDays && basis != api.BasisWork:
		return 0, api.ErrKind
	case !bounds.IsMoney(amount) || !hasDays(p):
		return 0, api.ErrRange
	}
	if _, err := calendar.Workdays(p.From, p.To, holidays); err != api.OK {
		return 0, err
	}
	all := count(p, basis, holidays)
	if all == 0 {
		return 0, api.ErrNone
	}
	common, some := Overlap(p, q)
	if !some {
		return 0, api.OK
	}
	return money.Round(amount*count(common, basis, holidays), all, api.RoundHalfUp)
}

// count is asked of days and holidays that are known to be such.
func count(p api.Period, basis int, holidays []int) int {
	if basis == api.BasisDays {
		return p.To - p.From + 1
	}
	n, _ := calendar.Workdays(p.From, p.To, holidays)
	return n
}

// Split an amount.
func Split(amount int, p api.Period, cuts []int) ([]int, api.Errno) {
	switch {
	case !hasDays(p):
		return nil, api.ErrRange
	case len(cuts) >= api.MaxShares:
		return nil, api.ErrMany
	case !areCuts(p, cuts):
		return nil, api.ErrState
	}
	return money.Share(amount, lengths(p, cuts))
}

func areCuts(p api.Period, cuts []int) bool {
	ahead := p.From
	for _, cut := range cuts {
		if cut <= ahead || cut > p.To {
			return false
		}
		ahead = cut
	}
	return true
}

// lengths of the pieces into which cuts, each a piece's first day, cut a period.
func lengths(p api.Period, cuts []int) []int {
	days := make([]int, 0, len(cuts)+1)
	from := p.From
	for _, cut := range cuts {
		days = append(days, cut-from)
		from = cut
	}
	return append(days, p.To-from+1)
}
