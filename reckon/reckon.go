// Package reckon: what lines and steps make of numbers, for both alike.
package reckon

import (
	"paycycle/api"
	"paycycle/bounds"
	"paycycle/bracket"
	"paycycle/money"
)

// gaveUp is what is given up with, so that nobody between what is no money and Try has to hand it on.
type gaveUp api.Errno

// Try does something that reckons, up to its end, or up to what is no money: ErrRange.
func Try(do func()) (err api.Errno) {
	defer func() {
		if what := recover(); what != nil {
			err = api.Errno(what.(gaveUp))
		}
	}()
	do()
	return api.OK
}

// Money is the number itself; what is no money gives up.
func Money(n int) int {
	if !bounds.IsMoney(n) {
		panic(gaveUp(api.ErrRange))
	}
	return n
}

// sure is what a call answered; what is wrong with it gives up too.
func sure(n int, err api.Errno) int {
	if err != api.OK {
		panic(gaveUp(err))
	}
	return Money(n)
}

// Rate: the part of an amount by a rate.
func Rate(amount, rate int) int { return sure(money.Part(amount, rate, api.RoundHalfUp)) }

// Over: an amount over a number.
func Over(amount, number int) int { return sure(money.Round(amount, number, api.RoundHalfUp)) }

// Tax: what a table asks of an amount.
func Tax(t api.Table, amount int) int { return sure(bracket.Tax(t, amount)) }

// Holds: do two numbers compare so?
func Holds(test, a, b int) bool {
	switch test {
	case api.TestLess:
		return a < b
	case api.TestUpto:
		return a <= b
	}
	return a == b
}
