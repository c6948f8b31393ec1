package sheet

import (
	"fmt"
	"regexp"
	"slices"
	"strings"
	"testing"
	"unicode/utf8"

	"paycycle/api"
)

// draw makes small numbers, the same each time.
type draw uint64

func (d *draw) below(n int) int {
	*d = *d*6364136223846793005 + 1442695040888963407
	return int(uint64(*d) >> 33 % uint64(n))
}

const most = api.MaxMoney

func of(name string, money int) api.Amount { return api.Amount{Name: name, Money: money} }

// many has so many amounts, whose names are no two alike.
func many(n, money int) []api.Amount {
	var l []api.Amount
	for i := range n {
		l = append(l, of(string([]byte{'a' + byte(i/26), 'a' + byte(i%26), 'x'}), money))
	}
	return l
}

// drawAmounts has amounts with names of all lengths, and money of all sizes, some alike.
func drawAmounts(d *draw, n int) []api.Amount {
	var l []api.Amount
	for range n {
		name := strings.Repeat("s", d.below(6)) + string(rune('a'+d.below(9))) + strings.Repeat("u", d.below(3))
		size := 1
		for range d.below(13) {
			size *= 10
		}
		l = append(l, of(name, d.below(2*size+1)-size))
	}
	return l
}

var (
	nameForm  = regexp.MustCompile(`^[a-z]{1,8}$`)
	wordForms = regexp.MustCompile(`^(earn|take|tax|let|if|then|else|of|year|table|min|max|sum)$`)
)

func isNoMoney(n int) bool { return n < -1000000000000 || n > 1000000000000 }

// sayOfAmounts is what U1 asks of amounts ahead of how long lines are.
func sayOfAmounts(l []api.Amount) api.Errno {
	if len(l) > 30 {
		return api.ErrMany
	}
	sum := 0
	for _, a := range l {
		if !nameForm.MatchString(a.Name) || wordForms.MatchString(a.Name) {
			return api.ErrForm
		}
		if isNoMoney(a.Money) {
			return api.ErrRange
		}
		sum += a.Money
	}
	for i, a := range l {
		for _, ahead := range l[:i] {
			if ahead.Name == a.Name {
				return api.ErrTwice
			}
		}
	}
	if isNoMoney(sum) {
		return api.ErrRange
	}
	return api.OK
}

// sayOfPrint is what U1 asks of Print: lines grow by dots, one by one.
func sayOfPrint(l []api.Amount, width int) (string, api.Errno) {
	if width < 20 || width > 60 {
		return "", api.ErrRange
	}
	if err := sayOfAmounts(l); err != api.OK {
		return "", err
	}
	text, sum := "", 0
	line := func(name string, n int) bool {
		sign := ""
		if n < 0 {
			sign, n = "-", -n
		}
		behind := fmt.Sprintf("%s%d.%02d", sign, n/100, n%100)
		ahead := name + ".."
		for len(ahead+behind) < width {
			ahead += "."
		}
		text += ahead + behind + "\n"
		return len(ahead+behind) == width
	}
	for _, a := range l {
		if !line(a.Name, a.Money) {
			return "", api.ErrMany
		}
		sum += a.Money
	}
	if !line("sum", sum) {
		return "", api.ErrMany
	}
	return text, api.OK
}

func printIs(t *testing.T, l []api.Amount, width int, want string, wantErr api.Errno) {
	t.Helper()
	if got, err := Print(l, width); got != want || err != wantErr {
		t.Errorf("Print(%v, %d) = %q, %d; want %q, %d", l, width, got, err, want, wantErr)
	}
}

func parseIs(t *testing.T, s string, want []api.Amount, wantWidth int) {
	t.Helper()
	if got, width, fault := Parse(s); !slices.Equal(got, want) || width != wantWidth || fault != (api.Fault{}) {
		t.Errorf("Parse(%q) = %v, %d, %v; want %v, %d", s, got, width, fault, want, wantWidth)
	}
}

func isNoSheet(t *testing.T, s string) {
	t.Helper()
	if got, width, fault := Parse(s); len(got) != 0 || width != 0 || fault != (api.Fault{Err: api.ErrForm}) {
		t.Errorf("Parse(%.200q) = %v, %d, %v; want a fault", s, got, width, fault)
	}
}

func boxIs(t *testing.T, lines []string, want string, wantErr api.Errno) {
	t.Helper()
	if got, err := Box(lines); got != want || err != wantErr {
		t.Errorf("Box(%.200q) = %q, %d; want %q, %d", lines, got, err, want, wantErr)
	}
}

// lettersOf takes a line apart, letter by letter.
func lettersOf(line string) []string {
	var l []string
	for line != "" {
		letter, size := utf8.DecodeRuneInString(line)
		if letter == utf8.RuneError && size == 1 {
			l = append(l, "?")
		} else {
			l = append(l, line[:size])
		}
		line = line[size:]
	}
	return l
}

// sayOfBox is what U3 asks of Box.
func sayOfBox(lines []string) (string, api.Errno) {
	if len(lines) > 100 {
		return "", api.ErrMany
	}
	longest, hidden := 0, 0
	for _, line := range lines {
		if len(line) > 200 {
			return "", api.ErrRange
		}
		for _, b := range []byte(line) {
			if b < 32 || b == 127 {
				hidden++
			}
		}
		longest = max(longest, len(lettersOf(line)))
	}
	if hidden > 0 {
		return "", api.ErrForm
	}
	edge := "+" + strings.Repeat("-", longest+2) + "+\n"
	text := edge
	for _, line := range lines {
		letters := lettersOf(line)
		for len(letters) < longest {
			letters = append(letters, " ")
		}
		text += "| " + strings.Join(letters, "") + " |\n"
	}
	return text + edge, api.OK
}
