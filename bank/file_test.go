package bank

import (
	"math"
	"slices"
	"strings"
	"testing"

	"paycycle/api"
)

func TestP2Files(t *testing.T) {
	printIs(t, 0, nil, "F00000000000000000000000\nE0000000000\n", api.OK)
	printIs(t, 73048, []api.Payment{}, "F73048000000000000000000\nE0000073048\n", api.OK)
	printIs(t, 300, []api.Payment{pay(anna, "anna", 12345, 7)}, "F00300001000000000012345\nP1234567890920000000012345000007anna........\nE3456802140\n", api.OK)
	printIs(t, 1, []api.Payment{pay(bert, "abcdefghijkl", 1000000000000, 999999), pay(bert, "z", 1, 0)},
		"F00001002001000000000001\nP0000000007771000000000000999999abcdefghijkl\nP0000000007770000000000001000000z...........\nE0001005633\n", api.OK)
	printIs(t, 0, []api.Payment{pay("999999999951", "a", 39, 10)}, "F00000001000000000000039\nP9999999999510000000000039000010a...........\nE0000003300\n", api.OK)
}

func TestP2Edges(t *testing.T) {
	most := row(api.MaxPayments)
	for i := range most {
		most[i] = pay("999999999951", "abcdefghijkl", api.MaxMoney, 999999-i)
	}
	for _, l := range [][]api.Payment{row(1), row(9), row(10), row(99), row(100), row(api.MaxPayments), most} {
		for _, day := range []int{0, 9, 99999 % api.MaxDay, api.MaxDay} {
			printIs(t, day, l, written(day, l), api.OK)
			parseIs(t, written(day, l), day, l, api.Fault{})
		}
	}
}

func TestP3PrintErrors(t *testing.T) {
	for _, day := range []int{math.MinInt, -1, api.MaxDay + 1, 99999, 100000, math.MaxInt} {
		for _, l := range [][]api.Payment{nil, row(1), make([]api.Payment, 5), make([]api.Payment, api.MaxPayments+1)} {
			printIs(t, day, l, "", api.ErrRange)
		}
	}
	refused(t, row(api.MaxPayments+1), api.ErrMany)
	refused(t, make([]api.Payment, api.MaxPayments+1), api.ErrMany)
	refused(t, make([]api.Payment, api.MaxPayments), api.ErrForm)
	fine := pay(bert, "b", 5, 5)
	among := func(bad api.Payment, want api.Errno) {
		for _, l := range [][]api.Payment{{bad}, {bad, fine}, {fine, bad}, {fine, fine, bad}, {bad, bad}, append(row(api.MaxPayments-1), bad)} {
			refused(t, l, want)
		}
	}
	for _, bad := range noForms() {
		among(bad, api.ErrForm)
		bad.Money, bad.Ref = 0, -1
		among(bad, api.ErrForm)
	}
	for _, bad := range noNumbers() {
		among(bad, api.ErrRange)
		refused(t, []api.Payment{bad, noForms()[0]}, api.ErrRange)
		refused(t, []api.Payment{noForms()[0], bad}, api.ErrForm)
	}
	for _, l := range [][]api.Payment{{fine, fine}, {fine, pay(anna, "a", 1, 5)}, {fine, pay(anna, "a", 1, 0), fine}, append(row(api.MaxPayments-1), pay(anna, "a", 1, 0))} {
		refused(t, l, api.ErrTwice)
	}
}

func TestP3Short(t *testing.T) {
	for _, l := range [][]api.Payment{nil, row(1), {pay(bert, "abcdefghijkl", 1, 0)}, row(3)} {
		s := written(300, l)
		for i := range s {
			faultIs(t, s[:i], api.ErrForm, i)
		}
		for _, more := range []string{"\n", " ", "E", "0", "P", "\x00", s} {
			faultIs(t, s+more, api.ErrForm, len(s))
		}
	}
}

// TestP3EachByte: whatever stands at a byte instead.
func TestP3EachByte(t *testing.T) {
	for _, l := range [][]api.Payment{nil, {pay(anna, "anna", 12345, 7)}, {pay(anna, "anna", 1, 0), pay(bert, "abcdefghijkl", 1000000000000, 999999)}, row(10)} {
		s := written(300, l)
		for i := range s {
			for c := range 256 {
				parseIsAsAsked(t, s[:i]+string([]byte{byte(c)})+s[i+1:])
			}
			for _, c := range []string{"", "0", "a", ".", "\n", "\u0661", "\uff11", "F00", "P"} {
				parseIsAsAsked(t, s[:i]+c+s[i:])
				parseIsAsAsked(t, s[:i]+c+s[i+1:])
			}
		}
	}
}

func TestP3Form(t *testing.T) {
	first := "F00003001000000000000001\n"
	payment := "P1234567890920000000000001000001"
	for _, c := range []struct {
		s  string
		at int
	}{
		{"", 0}, {"f", 0}, {"\n", 0}, {"E0000000003\n", 0}, {"F0000x", 5}, {"F 0003", 1}, {"F+0003", 1}, {"F-0003", 1},
		{"F00003000000000000000000E", 24}, {"F00003000000000000000000\r\n", 24}, {"F00003000000000000000000\nP", 25}, {"F00003000000000000000000\nE0000000003\r\n", 36},
		{"F00003999000000000000000\nE", 25}, {first + "E0000000003\n", 25}, {first + payment + "a...........\nP", 70},
		{first + payment + "............\n", 57}, {first + payment + ".a..........\n", 57}, {first + payment + "a.a.........\n", 59}, {first + payment + "a..........b\n", 68}, {first + payment + "A...........\n", 57},
		{first + payment + "a..........\n", 68}, {first + payment + "abcdefghijklm\n", 69}, {first + payment + "a............\n", 69}, {first + payment + "a\n", 58}, {first + payment + "\n", 57}, {first + payment + "\xc3\xa9\n", 57}, {first + payment + "a\xc3\xa9\n", 58},
		{first + payment + "a...........\nE00000000x3\n", 79}, {first + payment + "a...........\nE000000003\n", 80},
	} {
		faultIs(t, c.s, api.ErrForm, c.at)
	}
}

// TestP3WhichFault: of a text of a file's form; of several the one that is named first.
func TestP3WhichFault(t *testing.T) {
	badDay := func(l []api.Payment) { faultIs(t, writtenAs(99999, len(l), 1, l, 5), api.ErrRange, 0) }
	wrongEnd := []api.Payment{pay("123456789091", "a", 1, 1)}
	for _, day := range []int{73049, 80000, 99999} {
		faultIs(t, written(day, nil), api.ErrRange, 0)
		faultIs(t, written(day, row(2)), api.ErrRange, 0)
	}
	for _, n := range []int{301, 302, 999} {
		faultIs(t, written(3, row(n)), api.ErrRange, 0)
		faultIs(t, written(3, slices.Repeat(wrongEnd, n)), api.ErrRange, 0)
		faultIs(t, written(3, row(n))+"\n", api.ErrForm, 25+45*n+12)
	}
	twice := []api.Payment{pay(anna, "a", 1, 1), pay(bert, "b", 2, 1)}
	for _, c := range []struct {
		l   []api.Payment
		err api.Errno
	}{
		{wrongEnd, api.ErrForm}, {[]api.Payment{pay("000000000001", "a", 1, 1)}, api.ErrForm}, {[]api.Payment{pay("123456789091", "a", 0, 1)}, api.ErrForm},
		{[]api.Payment{pay(anna, "a", 0, 1)}, api.ErrRange}, {[]api.Payment{pay(anna, "a", 1000000000001, 1)}, api.ErrRange}, {[]api.Payment{pay(anna, "a", 9999999999999, 1)}, api.ErrRange},
		{[]api.Payment{pay(anna, "a", 0, 1), wrongEnd[0]}, api.ErrRange}, {[]api.Payment{wrongEnd[0], pay(anna, "a", 0, 1)}, api.ErrForm},
		{twice, api.ErrTwice}, {append(twice, wrongEnd...), api.ErrForm}, {append(row(api.MaxPayments-1), pay(anna, "a", 1, 0)), api.ErrTwice},
	} {
		faultIs(t, written(3, c.l), c.err, 0)
		faultIs(t, writtenAs(3, len(c.l), 7, c.l, 7), c.err, 0)
		badDay(c.l)
	}
	badDay(nil)
	badDay(row(1))
}

func TestP3State(t *testing.T) {
	l := row(2) // they come to 3
	check := (3 + 123456789092 + 1 + 2*(123456789092+2+1)) % 9999999967
	parseIs(t, writtenAs(3, 2, 3, l, check), 3, l, api.Fault{})
	for _, sum := range []int{0, 2, 4, 1000000003, 999999999999999} {
		faultIs(t, writtenAs(3, 2, sum, l, check), api.ErrState, 0)
	}
	for _, other := range []int{0, check - 1, check + 1, 9999999966, 9999999967, 9999999999} {
		faultIs(t, writtenAs(3, 2, 3, l, other), api.ErrState, 0)
		faultIs(t, writtenAs(3, 2, 4, l, other), api.ErrState, 0)
	}
	faultIs(t, writtenAs(4, 2, 3, l, check), api.ErrState, 0)
	faultIs(t, writtenAs(3, 0, 0, nil, 3+9999999967), api.ErrState, 0)
	faultIs(t, writtenAs(3, 0, 0, nil, 0), api.ErrState, 0)
	swapped := []api.Payment{pay(bert, "b", 1, 1), pay(anna, "a", 1, 2)}
	other := []api.Payment{swapped[1], swapped[0]}
	faultIs(t, strings.Replace(written(3, swapped), written(3, swapped)[25:115], written(3, other)[25:115], 1), api.ErrState, 0)
}

func TestP5WhatIsPrintedIsParsed(t *testing.T) {
	var d draw
	for n := range 400 {
		l := drawPayments(&d, n%20)
		if n%80 == 0 {
			l = drawPayments(&d, 300)
		}
		day := d.below(api.MaxDay + 1)
		s := written(day, l)
		printIs(t, day, l, s, api.OK)
		parseIs(t, s, day, l, api.Fault{})
	}
}

// otherDigits has each text in which one digit, of every so many, is another one.
func otherDigits(s string, every int, do func(other string)) {
	for i := 0; i < len(s); i += every {
		for c := byte('0'); c <= '9' && s[i] >= '0' && s[i] <= '9'; c++ {
			if c != s[i] {
				do(s[:i] + string([]byte{c}) + s[i+1:])
			}
		}
	}
}

func TestP5OneDigit(t *testing.T) {
	var d draw
	noFile := func(s string) {
		if day, l, fault := Parse(s); fault.Err == api.OK || day != 0 || len(l) > 0 {
			t.Errorf("Parse(%s) = %d, %s, %v", short(s), day, short(l), fault)
		}
	}
	for n := range 60 {
		otherDigits(written(d.below(api.MaxDay+1), drawPayments(&d, n%12)), 1, noFile)
	}
	otherDigits(written(300, drawPayments(&d, 300)), 23, noFile)
}

// TestP3AnyText: files whose bytes and lines went astray.
func TestP3AnyText(t *testing.T) {
	var d draw
	letters := "FPE0123456789abz.\nA \x00\xff"
	for n := range 6000 {
		l := drawPayments(&d, n%4)
		if n%3 == 0 && len(l) > 1 {
			l[1].Ref = l[0].Ref
		}
		b := []byte(written(d.below(90000), l))
		for range d.below(4) {
			i, j := d.below(len(b)), d.below(len(b))
			switch d.below(4) {
			case 0:
				b[i] = letters[d.below(len(letters))]
			case 1:
				b[i], b[j] = b[j], b[i]
			case 2:
				b = append(b[:i], b[min(i+1+d.below(3), len(b)):]...)
			case 3:
				b = slices.Concat(b[:i], b[min(i, j):max(i, j)], b[i:])
			}
			b = append(b, "\n"[:d.below(50)/49]...)
			if len(b) == 0 {
				break
			}
		}
		parseIsAsAsked(t, string(b))
	}
}
