// Package calendar: days and dates: see doc/02-calendar.md.
package calendar

import (
	"paycycle/api"
	"paycycle/bounds"
)

const (
	firstYear = 2000
	years     = 200
	longYear  = 366
)

// Civil date of a day.
func Civil(day int) (api.Date, api.Errno) {
	if !bounds.IsDay(day) {
		return api.Date{}, api.ErrRange
	}
	starts := yearStarts()
	i := day / longYear // no year is longer, so this one is never too late
	for starts[i+1] <= day {
		i++
	}
	year, month, rest := firstYear+i, 1, day-starts[i]
	for rest >= monthDays(year, month) {
		rest -= monthDays(year, month)
		month++
	}
	return api.Date{Year: year, Month: month, Day: rest + 1}, api.OK
}

// Day of a date.
func Day(d api.Date) (int, api.Errno) {
	if !isDate(d) {
		return 0, api.ErrRange
	}
	starts := yearStarts()
	day := starts[d.Year-firstYear] + d.Day - 1
	for month := 1; month < d.Month; month++ {
		day += monthDays(d.Year, month)
	}
	return day, api.OK
}

// Weekday of a day.
func Weekday(day int) (int, api.Errno) {
	if !bounds.IsDay(day) {
		return 0, api.ErrRange
	}
	return weekday(day), api.OK
}

// Months later.
func Months(day, n int) (int, api.Errno) {
	d, err := Civil(day)
	if err != api.OK || n < -12*years || n > 12*years {
		return 0, api.ErrRange
	}
	months := 12*(d.Year-firstYear) + d.Month - 1 + n
	if months < 0 || months >= 12*years {
		return 0, api.ErrRange
	}
	year, month := firstYear+months/12, months%12+1
	return Day(api.Date{Year: year, Month: month, Day: min(d.Day, monthDays(year, month))})
}

func isDate(d api.Date) bool {
	return d.Year >= firstYear && d.Year < firstYear+years &&
		d.Month >= 1 && d.Month <= 12 &&
		d.Day >= 1 && d.Day <= monthDays(d.Year, d.Month)
}

// weekday: day 0 is a Saturday, five behind Monday.
func weekday(day int) int { return (day + 5) % 7 }

// yearStarts has one more than there are years, so that each year's end stands there too.
func yearStarts() [years + 1]int {
	var starts [years + 1]int
	for i := range years {
		starts[i+1] = starts[i] + yearDays(firstYear+i)
	}
	return starts
}

func yearDays(year int) int {
	if isLong(year) {
		return longYear
	}
	return longYear - 1
}

func isLong(year int) bool { return year%4 == 0 && (year%100 != 0 || year%400 == 0) }

func monthDays(year, month int) int {
	switch month {
	case 2:
		if isLong(year) {
			return 29
		}
		return 28
	case 4, 6, 9, 11:
		return 30
	}
	return 31
}
