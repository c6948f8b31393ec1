package money

import (
	"strconv"
	"strings"

	"paycycle/api"
	"paycycle/bounds"
)

// Print an amount.
func Print(amount int) (string, api.Errno) {
	if !bounds.IsMoney(amount) {
		return "", api.ErrRange
	}
	sign := ""
	if amount < 0 {
		sign, amount = "-", -amount
	}
	hundredths := strconv.Itoa(100 + amount%100)[1:]
	return sign + strconv.Itoa(amount/100) + "." + hundredths, api.OK
}

// Read an amount.
func Read(s string) (int, api.Fault) {
	start := 0
	if strings.HasPrefix(s, "-") {
		start = 1
	}
	point := wholeEnd(s, start)
	if at, wrong := wrongAt(s, start, point); wrong {
		return 0, api.Fault{Err: api.ErrForm, At: at}
	}
	amount := withDigits(withDigits(0, s[start:point]), s[point+1:])
	switch {
	case amount == 0 && start > 0:
		return 0, api.Fault{Err: api.ErrForm}
	case amount > api.MaxMoney:
		return 0, api.Fault{Err: api.ErrRange}
	case start > 0:
		amount = -amount
	}
	return amount, api.Fault{}
}

// wholeEnd is where the digits of the whole units end; behind a nought at their beginning none may follow.
func wholeEnd(s string, start int) int {
	if start < len(s) && s[start] == '0' {
		return start + 1
	}
	end := start
	for isDigitAt(s, end) {
		end++
	}
	return end
}

// wrongAt tells the first byte that cannot stand where it does, which is the end of a text that is short.
func wrongAt(s string, start, point int) (int, bool) {
	switch {
	case point == start:
		return start, true
	case point >= len(s) || s[point] != '.':
		return point, true
	case !isDigitAt(s, point+1):
		return point + 1, true
	case !isDigitAt(s, point+2):
		return point + 2, true
	case len(s) > point+3:
		return point + 3, true
	}
	return 0, false
}

func isDigitAt(s string, at int) bool { return at < len(s) && s[at] >= '0' && s[at] <= '9' }

// withDigits stops as soon as n is no money any more, so that no text is too long for it.
func withDigits(n int, digits string) int {
	for i := 0; i < len(digits) && n <= api.MaxMoney; i++ {
		n = 10*n + int(digits[i]-'0')
	}
	return n
}
