package bank

import (
	"strconv"
	"strings"

	"paycycle/api"
	"paycycle/bounds"
)

// How many digits numbers of a file have.
const (
	dayDigits   = 5
	countDigits = 3
	sumDigits   = 15
	moneyDigits = 13
	refDigits   = 6
	checkDigits = 10
)

// checkModulus is prime, so that no place times a change of a ref goes by unseen.
const checkModulus = 9999999967

// Print a file.
func Print(day int, l []api.Payment) (string, api.Errno) {
	if !bounds.IsDay(day) {
		return "", api.ErrRange
	}
	if err := checkPayments(l); err != api.OK {
		return "", err
	}
	var b strings.Builder
	b.WriteString("F" + padded(day, dayDigits) + padded(len(l), countDigits) + padded(sum(l), sumDigits) + "\n")
	for _, p := range l {
		dots := strings.Repeat(".", maxName-len(p.Name))
		b.WriteString("P" + p.Account + padded(p.Money, moneyDigits) + padded(p.Ref, refDigits) + p.Name + dots + "\n")
	}
	b.WriteString("E" + padded(checkNumber(day, l), checkDigits) + "\n")
	return b.String(), api.OK
}

// padded has noughts ahead of a number that is not below 0.
func padded(n, digits int) string {
	s := strconv.Itoa(n)
	return strings.Repeat("0", max(0, digits-len(s))) + s
}

func sum(l []api.Payment) int {
	all := 0
	for _, p := range l {
		all += p.Money
	}
	return all
}

func checkNumber(day int, l []api.Payment) int {
	n := day
	for i, p := range l {
		n += (i + 1) * (p.Money + p.Ref + number(p.Account))
	}
	return n % checkModulus
}

// Parse a file.
func Parse(s string) (int, []api.Payment, api.Fault) { return parse(s) }

// wrong is what is given up with, so that nobody between a fault and parse has to hand it on.
type wrong api.Fault

func giveUp(err api.Errno, at int) { panic(wrong{Err: err, At: at}) }

func parse(s string) (day int, l []api.Payment, fault api.Fault) {
	defer func() {
		if what := recover(); what != nil {
			day, l, fault = 0, nil, api.Fault(what.(wrong))
		}
	}()
	r := &reader{text: s}
	day, l = r.file()
	compare(s, day, l)
	return day, l, fault
}

// compare gives up if a text of a file's form is not the one file of its day and payments.
func compare(s string, day int, l []api.Payment) {
	if len(l) > api.MaxPayments {
		giveUp(api.ErrRange, 0) // Print has another error for it
	}
	printed, err := Print(day, l)
	switch {
	case err != api.OK:
		giveUp(err, 0)
	case printed != s:
		giveUp(api.ErrState, 0) // all but the sum and the check went into what is printed
	}
}

// reader of a text, whose bytes ahead of at are read.
type reader struct {
	text string
	at   int
}

func (r *reader) file() (int, []api.Payment) {
	r.sign('F')
	day := number(r.digits(dayDigits))
	count := number(r.digits(countDigits))
	r.digits(sumDigits)
	r.sign('\n')
	var l []api.Payment
	for range count {
		l = append(l, r.payment())
	}
	r.sign('E')
	r.digits(checkDigits)
	r.sign('\n')
	if r.at < len(r.text) {
		giveUp(api.ErrForm, r.at)
	}
	return day, l
}

func (r *reader) payment() api.Payment {
	r.sign('P')
	p := api.Payment{Account: r.digits(accountDigits)}
	p.Money = number(r.digits(moneyDigits))
	p.Ref = number(r.digits(refDigits))
	p.Name = r.name()
	r.sign('\n')
	return p
}

func (r *reader) sign(wanted rune) {
	r.take(1, func(c rune) bool { return c == wanted })
}

func (r *reader) digits(n int) string { return r.take(n, isDigit) }

func (r *reader) name() string {
	var ahead rune // 0: nothing of the name is ahead
	field := r.take(maxName, func(c rune) bool {
		fits := isLetter(c) && ahead != '.' || c == '.' && ahead != 0
		ahead = c
		return fits
	})
	return strings.TrimRight(field, ".")
}

// take reads so many bytes, and gives up at the first one that does not fit, or at the end of a text that is short.
func (r *reader) take(n int, fits func(rune) bool) string {
	piece := r.text[r.at:min(r.at+n, len(r.text))]
	for i, c := range piece {
		if !fits(c) {
			giveUp(api.ErrForm, r.at+i)
		}
	}
	r.at += len(piece)
	if len(piece) < n {
		giveUp(api.ErrForm, r.at)
	}
	return piece
}
