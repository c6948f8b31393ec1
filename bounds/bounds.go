// Package bounds: what numbers may be, for all layers alike.
package bounds

import "paycycle/api"

// IsDay: is it the number of a day?
func IsDay(n int) bool { return n >= 0 && n <= api.MaxDay }

// IsMoney: is it an amount of money?
func IsMoney(n int) bool { return n >= -api.MaxMoney && n <= api.MaxMoney }
