package calendar

import (
	"paycycle/api"
	"paycycle/bounds"
)

// Workdays from a day to another one.
func Workdays(from, to int, holidays []int) (int, api.Errno) {
	if err := check(holidays, from, to); err != api.OK {
		return 0, err
	}
	free := freeDays(holidays)
	count := 0
	for day := from; day <= to; day++ {
		if isWorkday(day, free) {
			count++
		}
	}
	return count, api.OK
}

// Next workday.
func Next(day int, holidays []int) (int, api.Errno) {
	if err := check(holidays, day); err != api.OK {
		return 0, err
	}
	return firstWorkday(day, 1, holidays)
}

// Last workday.
func Last(day int, holidays []int) (int, api.Errno) {
	if err := check(holidays, day); err != api.OK {
		return 0, err
	}
	return firstWorkday(day, -1, holidays)
}

// firstWorkday at a day or, step by step, beyond it.
func firstWorkday(day, step int, holidays []int) (int, api.Errno) {
	free := freeDays(holidays)
	for ; bounds.IsDay(day); day += step {
		if isWorkday(day, free) {
			return day, api.OK
		}
	}
	return 0, api.ErrNone
}

// check goes through all numbers ahead of their order, for ErrRange goes ahead of ErrState.
func check(holidays []int, asked ...int) api.Errno {
	switch {
	case len(holidays) > api.MaxHolidays:
		return api.ErrMany
	case !areDays(asked...) || !areDays(holidays...):
		return api.ErrRange
	case !rise(holidays):
		return api.ErrState
	}
	return api.OK
}

func areDays(days ...int) bool {
	for _, day := range days {
		if !bounds.IsDay(day) {
			return false
		}
	}
	return true
}

func rise(days []int) bool {
	for i := 1; i < len(days); i++ {
		if days[i] <= days[i-1] {
			return false
		}
	}
	return true
}

func freeDays(holidays []int) map[int]struct{} {
	free := make(map[int]struct{}, len(holidays))
	for _, day := range holidays {
		free[day] = struct{}{}
	}
	return free
}

func isWorkday(day int, free map[int]struct{}) bool {
	_, off := free[day]
	return weekday(day) < 5 && !off
}
