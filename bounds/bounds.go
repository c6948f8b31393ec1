// Package bounds: what numbers may be, for all layers alike.
package bounds

import "paycycle/api"

// Days are of these years alone.
const (
	firstYear = 2000
	lastYear  = 2199
)

// IsDay: is it the number of a day?
func IsDay(n int) bool { return n >= 0 && n <= api.MaxDay }

// IsYear: is it a year that has days?
func IsYear(n int) bool { return n >= firstYear && n <= lastYear }

// IsMoney: is it an amount of money?
func IsMoney(n int) bool { return n >= -api.MaxMoney && n <= api.MaxMoney }

// IsSomeMoney: is it an amount of money, and not 0?
func IsSomeMoney(n int) bool { return n != 0 && IsMoney(n) }

// IsPerson: is it the number that a person may have?
func IsPerson(n int) bool { return n >= 1 && n <= api.MaxPersons }
