// Package money: money, and how it is rounded: see doc/01-money.md.
package money

import (
	"paycycle/api"
	"paycycle/bounds"
)

// rateParts is what a rate is in parts of.
const rateParts = 10000

// Round a fraction.
func Round(n, d, way int) (int, api.Errno) {
	switch {
	case !isWay(way):
		return 0, api.ErrKind
	case d < 1 || d > api.MaxRate || n < -api.MaxWhole || n > api.MaxWhole:
		return 0, api.ErrRange
	}
	return rounded(n, d, way), api.OK
}

// Part of an amount.
func Part(amount, rate, way int) (int, api.Errno) {
	switch {
	case !isWay(way):
		return 0, api.ErrKind
	case !bounds.IsMoney(amount) || !isRate(rate):
		return 0, api.ErrRange
	}
	return rounded(amount*rate, rateParts, way), api.OK
}

func isWay(way int) bool { return way >= api.RoundDown && way <= api.RoundHalfEven }

func isRate(rate int) bool { return rate >= 0 && rate <= api.MaxRate }

// rounded leans on Go's division, which cuts towards 0: all that a way can add is one step away from 0.
func rounded(n, d, way int) int {
	whole, rest := n/d, n%d
	switch {
	case rest == 0 || !stepsAway(whole, rest, d, way):
		return whole
	case n < 0:
		return whole - 1
	}
	return whole + 1
}

// stepsAway is asked only of a rest that is not 0; the rest has the sign of what is rounded.
func stepsAway(whole, rest, d, way int) bool {
	twice := 2 * max(rest, -rest)
	switch way {
	case api.RoundUp:
		return true
	case api.RoundFloor:
		return rest < 0
	case api.RoundCeiling:
		return rest > 0
	case api.RoundHalfUp:
		return twice >= d
	case api.RoundHalfEven:
		return twice > d || twice == d && whole%2 != 0
	}
	return false
}
