package calendar

import (
	"strconv"

	"paycycle/api"
)

// pattern of a printed day: where a 0 stands, any digit may.
const pattern = "0000-00-00"

// Print a day.
func Print(day int) (string, api.Errno) {
	d, err := Civil(day)
	if err != api.OK {
		return "", err
	}
	return strconv.Itoa(d.Year) + "-" + twoDigits(d.Month) + "-" + twoDigits(d.Day), api.OK
}

// Read a day.
func Read(s string) (int, api.Fault) {
	for at := range len(pattern) {
		if at >= len(s) || !fits(s[at], pattern[at]) {
			return 0, api.Fault{Err: api.ErrForm, At: at}
		}
	}
	if len(s) > len(pattern) {
		return 0, api.Fault{Err: api.ErrForm, At: len(pattern)}
	}
	day, err := Day(api.Date{Year: number(s[0:4]), Month: number(s[5:7]), Day: number(s[8:10])})
	return day, api.Fault{Err: err}
}

func fits(c, wanted byte) bool {
	if wanted == '0' {
		return c >= '0' && c <= '9'
	}
	return c == wanted
}

func number(digits string) int {
	n := 0
	for i := range len(digits) {
		n = 10*n + int(digits[i]-'0')
	}
	return n
}

func twoDigits(n int) string { return strconv.Itoa(100 + n)[1:] }
