package sheet

import (
	"math"
	"slices"
	"strings"
	"testing"

	"paycycle/api"
)

func TestU1Written(t *testing.T) {
	printIs(t, []api.Amount{of("a", 5)}, 20, "a...............0.05\nsum.............0.05\n", api.OK)
	printIs(t, nil, 20, "sum.............0.00\n", api.OK)
	printIs(t, []api.Amount{}, 21, "sum..............0.00\n", api.OK)
	printIs(t, []api.Amount{of("wage", 250000), of("due", -4512), of("none", 0)}, 22, "wage...........2500.00\ndue.............-45.12\nnone..............0.00\nsum............2454.88\n", api.OK)
	printIs(t, []api.Amount{of("z", 1), of("a", -1)}, 20, "z...............0.01\na..............-0.01\nsum.............0.00\n", api.OK)
}

func TestU1Widths(t *testing.T) {
	for _, width := range []int{math.MinInt, -20, 0, 19, 61, math.MaxInt} {
		printIs(t, nil, width, "", api.ErrRange)
		printIs(t, make([]api.Amount, 31), width, "", api.ErrRange)
	}
	for width := 20; width <= 60; width++ {
		printIs(t, nil, width, "sum"+strings.Repeat(".", width-7)+"0.00\n", api.OK)
	}
}

// The longest lines: two dots are the fewest.
func TestU1LinesThatAreTooLong(t *testing.T) {
	for letters := 1; letters <= 8; letters++ {
		for _, n := range []int{0, 999, 1000, -most, most, -100000, 99999} {
			l := []api.Amount{of(strings.Repeat("x", letters), n)}
			for width := 20; width <= 30; width++ {
				want, err := sayOfPrint(l, width)
				printIs(t, l, width, want, err)
			}
		}
	}
	printIs(t, []api.Amount{of("abcdefgh", -most)}, 24, "", api.ErrMany)
	printIs(t, []api.Amount{of("abcdefgh", -most)}, 25, "abcdefgh..-10000000000.00\nsum.......-10000000000.00\n", api.OK)
	printIs(t, []api.Amount{of("a", 1), of("abcdefgh", most-1), of("b", 1)}, 20, "", api.ErrRange) // the sum, ahead of how long lines are
	printIs(t, []api.Amount{of("abc", -most)}, 20, "abc..-10000000000.00\nsum..-10000000000.00\n", api.OK)
	printIs(t, []api.Amount{of("abcd", -most)}, 20, "", api.ErrMany)
}

func TestU1Many(t *testing.T) {
	for _, n := range []int{29, 30, 31, 32, 500} {
		l := many(n, 7)
		want, err := sayOfPrint(l, 33)
		printIs(t, l, 33, want, err)
		if (n > 30) != (err == api.ErrMany) {
			t.Errorf("of %d amounts: %d", n, err)
		}
	}
	printIs(t, make([]api.Amount, 31), 20, "", api.ErrMany)
}

func TestU1NamesAndMoney(t *testing.T) {
	for _, name := range []string{"", "sum", "A", "aA", "a1", "a b", "a.", ".", "abcdefghi", "earn", "take", "tax", "let", "if", "then", "else", "of", "year", "table", "min", "max", "é", "a\n", "\xff"} {
		printIs(t, []api.Amount{of(name, 1)}, 40, "", api.ErrForm)
		printIs(t, []api.Amount{of("a", 1), of(name, math.MaxInt), of("a", 1)}, 40, "", api.ErrForm)
		printIs(t, []api.Amount{of("a", most+1), of(name, 1)}, 40, "", api.ErrRange) // one by one
	}
	for _, name := range []string{"summ", "su", "sums", "asum", "cash", "taxes"} {
		printIs(t, []api.Amount{of(name, 1)}, 20, name+strings.Repeat(".", 16-len(name))+"0.01\nsum.............0.01\n", api.OK)
	}
	for _, n := range []int{math.MinInt, -most - 1, most + 1, math.MaxInt} {
		printIs(t, []api.Amount{of("a", n)}, 40, "", api.ErrRange)
		printIs(t, []api.Amount{of("b", 1), of("b", 1), of("a", n)}, 40, "", api.ErrRange) // ahead of what is there twice
		printIs(t, []api.Amount{of("b", 1), of("a", n), of("", 1)}, 40, "", api.ErrRange)
	}
}

func TestU1TwiceAndSums(t *testing.T) {
	printIs(t, []api.Amount{of("a", most), of("b", 0), of("a", 1)}, 20, "", api.ErrTwice) // ahead of the sum
	printIs(t, []api.Amount{of("abcdefgh", -most), of("abcdefgh", most)}, 20, "", api.ErrTwice)
	printIs(t, []api.Amount{of("a", most), of("b", 1)}, 60, "", api.ErrRange)
	printIs(t, []api.Amount{of("a", -most), of("b", -1)}, 60, "", api.ErrRange)
	printIs(t, []api.Amount{of("abcdefgh", -most), of("b", -1)}, 20, "", api.ErrRange)
	printIs(t, []api.Amount{of("a", most), of("b", most), of("c", -most)}, 20, "a.....10000000000.00\nb.....10000000000.00\nc....-10000000000.00\nsum...10000000000.00\n", api.OK) // more on its way
	printIs(t, many(30, most), 60, "", api.ErrRange)
	printIs(t, many(30, -most), 60, "", api.ErrRange)
}

func TestU1Drawn(t *testing.T) {
	var d draw
	told := map[api.Errno]int{}
	for range 30000 {
		l := drawAmounts(&d, d.below(8))
		width := 18 + d.below(12)
		want, err := sayOfPrint(l, width)
		printIs(t, l, width, want, err)
		told[err]++
		if err == api.OK {
			parseIs(t, want, l, width)
		}
	}
	for _, err := range []api.Errno{api.OK, api.ErrRange, api.ErrTwice, api.ErrMany} {
		if told[err] == 0 {
			t.Errorf("%d was never drawn", err)
		}
	}
}

func TestU2WhatIsPrintedIsParsed(t *testing.T) {
	for n := range 31 {
		for _, money := range []int{0, 1, -1, 100, -most / 30, most / 30} {
			for _, width := range []int{20, 23, 59, 60} {
				l := many(n, money)
				text, err := Print(l, width)
				if err != api.OK {
					t.Fatalf("Print(%v, %d) = %d", l, width, err)
				}
				parseIs(t, text, l, width)
			}
		}
	}
}

func TestU2Others(t *testing.T) {
	sum := func(text string) string { return "sum" + strings.Repeat(".", 17-len(text)) + text + "\n" }
	for _, s := range []string{
		"", "\n", "\n\n", "sum", ".", "sum.............0.00", sum("0.00")[1:], "\n" + sum("0.00"), sum("0.00") + "\n", sum("0.00") + sum("0.00"), sum("0.01"), sum("-0.00"),
		"sum............0.00\n", "sum" + strings.Repeat(".", 54) + "0.00\n", "sum...0.00\n", "sum.............0.00\r\n", "sum             0.00\n",
		"sum..........1.00.00\n", "a...............1.00\n", "a...............1.00\nsum.............2.00\n", "a...............1.00\nsum..............1.00\n", "a................1.00\nsum.............1.00\n",
		"sum.............1.00\nsum.............1.00\n", "a..............01.00\nsum.............1.00\n", "a..............+1.00\nsum.............1.00\n", "a................1.0\nsum.............1.00\n",
		"a...............1.00\na...............1.00\nsum.............2.00\n", "if..............1.00\nsum.............1.00\n", "abcdefghi.......1.00\nsum.............1.00\n", "A...............1.00\nsum.............1.00\n",
		"................1.00\nsum.............1.00\n", "abcdefgh.10000000.00\nsum......10000000.00\n", "a.....20000000000.00\nb....-10000000000.00\nsum...10000000000.00\n",
		"a.....10000000000.00\nb...............0.01\nsum...10000000000.01\n", "a...............0.01\x00\nsum.............0.01\n", "sum.............0.00\na...............0.00\n",
		"\xff...............1.00\nsum.............1.00\n", "total...........0.00\n", "a..............-0.00\nsum.............0.00\n", "a..............\nsum.............0.00\n", "a\nsum.............0.00\n", "a...............0.00\nb\nsum.............0.00\n",
		strings.Repeat("\n", 10000000), strings.Repeat("sum.............0.00\n", 100000), strings.Repeat(".", 10000000),
	} {
		isNoSheet(t, s)
	}
	tooMany := ""
	for _, a := range many(31, 0) {
		tooMany += a.Name + ".............0.00\n"
	}
	isNoSheet(t, tooMany+"sum.............0.00\n")
	parseIs(t, tooMany[21:]+"sum.............0.00\n", many(31, 0)[1:], 20)
}

// Each text that is one byte off a sheet is none, or the sheet of other amounts.
func TestU2OneByteOff(t *testing.T) {
	var d draw
	for range 40 {
		l := drawAmounts(&d, 1+d.below(3))
		text, err := Print(l, 24)
		if err != api.OK {
			continue
		}
		for at := range text {
			for _, b := range []byte{'.', '0', '1', '9', '-', 'a', 's', 'z', '\n', ' ', 0, 0xff} {
				offByOne(t, text[:at]+string([]byte{b})+text[at+1:])
				offByOne(t, text[:at]+string([]byte{b})+text[at:])
			}
			offByOne(t, text[:at]+text[at+1:])
		}
	}
}

func offByOne(t *testing.T, s string) {
	t.Helper()
	l, width, fault := Parse(s)
	if fault != (api.Fault{}) {
		isNoSheet(t, s)
		return
	}
	if printed, err := sayOfPrint(l, width); printed != s || err != api.OK {
		t.Errorf("Parse(%q) = %v, %d, of which %q is printed", s, l, width, printed)
	}
}

// What is promised for all chapters: P1 is held in all tests, by what they ask of answers beside an error.

func TestAllP2InputsAreOnlyRead(t *testing.T) {
	room := []api.Amount{of("a", 1), of("b", 2), of("spare", 7), of("more", 9)}
	before := slices.Clone(room)
	text, _ := Print(room[:2], 20)
	Print(room[:0], 20)
	first, _, _ := Parse(text)
	second, _, _ := Parse(text)
	clear(first[:cap(first)])
	if !slices.Equal(room, before) || !slices.Equal(second, before[:2]) {
		t.Errorf("what was handed in is %v, another answer %v", room, second)
	}
	lines := []string{"a", "\xff", "spare"}
	Box(lines[:2])
	if !slices.Equal(lines, []string{"a", "\xff", "spare"}) {
		t.Errorf("what was handed in is %q", lines)
	}
}

func TestAllP3TheSameEachTime(t *testing.T) {
	l := many(30, 12)
	want, _ := sayOfPrint(l, 30)
	for range 50 {
		printIs(t, l, 30, want, api.OK)
		parseIs(t, want, l, 30)
		printIs(t, append(l[:29:29], l[0]), 30, "", api.ErrTwice)
	}
}
