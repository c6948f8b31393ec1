package retro

import (
	"cmp"
	"slices"

	"paycycle/api"
	"paycycle/calendar"
	"paycycle/history"
	"paycycle/value"
)

// reckoner goes through periods, one behind the other, of a plan that Check lets pass; sums are what each line came to in the year so far.
type reckoner struct {
	plan api.Plan
	seen int
	year int
	sums []int
}

// reckon: what the lines come to in the period that begins at a day. All that can still be wrong is what is no money, of years too: ErrRange.
func (r *reckoner) reckon(day int) ([]int, api.Errno) {
	r.goTo(day)
	values, _, err := value.Lines(r.plan.Lines, api.Known{Inputs: r.inputs(day), Tables: r.plan.Tables, Years: r.years()})
	if err != api.OK {
		return nil, err
	}
	for i, n := range values {
		r.sums[i] += n
	}
	return values, api.OK
}

// goTo begins the sums anew where a year does.
func (r *reckoner) goTo(day int) {
	date, _ := calendar.Civil(day) // it is asked of days alone
	if date.Year != r.year {
		r.year, r.sums = date.Year, make([]int, len(r.plan.Lines))
	}
}

func (r *reckoner) inputs(day int) []api.Amount {
	var inputs []api.Amount
	for _, in := range r.plan.Inputs {
		n, _, _ := history.At(in.Rows, day, r.seen) // 0, if there is none
		inputs = append(inputs, api.Amount{Name: in.Name, Money: n})
	}
	return inputs
}

// years rise by their names, which lines need not do.
func (r *reckoner) years() []api.Amount {
	var years []api.Amount
	for i, line := range r.plan.Lines {
		if r.sums[i] != 0 {
			years = append(years, api.Amount{Name: line.Name, Money: r.sums[i]})
		}
	}
	slices.SortFunc(years, func(a, b api.Amount) int { return cmp.Compare(a.Name, b.Name) })
	return years
}
