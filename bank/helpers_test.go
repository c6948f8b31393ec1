package bank

import (
	"fmt"
	"math"
	"math/big"
	"slices"
	"strconv"
	"strings"
	"testing"

	"paycycle/api"
)

// draw makes small numbers, the same each time.
type draw uint64

func (d *draw) below(n int) int {
	*d = *d*6364136223846793005 + 1442695040888963407
	return int(uint64(*d) >> 33 % uint64(n))
}

// numeral has so many digits, of any number.
func (d *draw) numeral(digits int) string {
	var b strings.Builder
	for range digits {
		b.WriteByte(byte('0' + d.below(10)))
	}
	return b.String()
}

// Two accounts, as the document's division makes them.
const (
	anna = "123456789092"
	bert = "000000000777"
)

func pay(account, name string, money, ref int) api.Payment {
	return api.Payment{Account: account, Name: name, Money: money, Ref: ref}
}

// row has so many payments, each with a ref of its own.
func row(n int) []api.Payment {
	var l []api.Payment
	for i := range n {
		l = append(l, pay(anna, "a", 1+i, i))
	}
	return l
}

// lookedFor is the account of ten digits, found by trying its ends one by one.
func lookedFor(body string) string {
	for end := 2; end <= 98; end++ {
		s := fmt.Sprintf("%s%02d", body, end)
		if n, err := strconv.Atoi(s); err == nil && n%97 == 1 {
			return s
		}
	}
	return ""
}

func drawPayments(d *draw, n int) []api.Payment {
	var l []api.Payment
	first := d.below(1000000 - n)
	for i := range n {
		money := 1 + d.below(1000000)
		switch d.below(4) {
		case 0:
			money = api.MaxMoney - d.below(3)
		case 1:
			money = 1 + d.below(3)
		}
		name := "abcdefghijklmnopqrstuvwxyz"[d.below(14):]
		l = append(l, pay(lookedFor(d.numeral(10)), name[:1+d.below(12)], money, first+i))
	}
	for i := range l {
		j := d.below(len(l))
		l[i].Ref, l[j].Ref = l[j].Ref, l[i].Ref
	}
	return l
}

// written is a text of a file's form, whatever is wrong with its payments.
func written(day int, l []api.Payment) string {
	all := big.NewInt(int64(day))
	sum := 0
	for i, p := range l {
		account, _ := strconv.Atoi(p.Account)
		one := big.NewInt(int64(p.Money + p.Ref + account))
		all.Add(all, one.Mul(one, big.NewInt(int64(i+1))))
		sum += p.Money
	}
	check := all.Mod(all, big.NewInt(9999999967)).Int64()
	return writtenAs(day, len(l), sum, l, int(check))
}

func writtenAs(day, count, sum int, l []api.Payment, check int) string {
	s := fmt.Sprintf("F%05d%03d%015d\n", day, count, sum)
	for _, p := range l {
		s += fmt.Sprintf("P%s%013d%06d%s%s\n", p.Account, p.Money, p.Ref, p.Name, "............"[len(p.Name):])
	}
	return s + fmt.Sprintf("E%010d\n", check)
}

// sayOfPayments is what P3 asks of payments.
func sayOfPayments(l []api.Payment) api.Errno {
	if len(l) > 300 {
		return api.ErrMany
	}
	for _, p := range l {
		account, err := strconv.ParseUint(p.Account, 10, 64)
		end := account % 100
		letters := strings.Trim(p.Name, "abcdefghijklmnopqrstuvwxyz") == ""
		switch {
		case err != nil || len(p.Account) != 12 || account%97 != 1 || end < 2 || end > 98, !letters || len(p.Name) < 1 || len(p.Name) > 12:
			return api.ErrForm
		case p.Money < 1 || p.Money > 1000000000000 || p.Ref < 0 || p.Ref > 999999:
			return api.ErrRange
		}
	}
	for i, p := range l {
		for _, q := range l[:i] {
			if p.Ref == q.Ref {
				return api.ErrTwice
			}
		}
	}
	return api.OK
}

// form tells what may stand at each byte of a file that begins as a text does: `0` a digit, `a` a letter, `.` one or, behind no dot, a letter; else the byte itself.
func form(s string) string {
	shape := "F00000000000000000000000\n"
	count := 0
	if len(s) >= 9 {
		count, _ = strconv.Atoi(s[6:9])
	}
	return shape + strings.Repeat("P0000000000000000000000000000000a...........\n", max(count, 0)) + "E0000000000\n"
}

// wrongAt is the byte at which a text is not of a file's form; -1: it is.
func wrongAt(s string) int {
	shape := form(s)
	for i := range max(len(s), len(shape)) {
		if i >= len(s) || i >= len(shape) {
			return i
		}
		c := s[i]
		fits := c == shape[i]
		switch shape[i] {
		case '0':
			fits = strings.IndexByte("0123456789", c) >= 0
		case 'a':
			fits = c >= 'a' && c <= 'z'
		case '.':
			fits = c == '.' || c >= 'a' && c <= 'z' && s[i-1] != '.'
		}
		if !fits {
			return i
		}
	}
	return -1
}

// sayOfFile is what P3 asks of Parse.
func sayOfFile(s string) (int, []api.Payment, api.Fault) {
	if at := wrongAt(s); at >= 0 {
		return 0, nil, api.Fault{Err: api.ErrForm, At: at}
	}
	lines := strings.Split(s, "\n")
	day, _ := strconv.Atoi(s[1:6])
	var l []api.Payment
	for _, line := range lines[1 : len(lines)-2] {
		money, _ := strconv.Atoi(line[13:26])
		ref, _ := strconv.Atoi(line[26:32])
		l = append(l, pay(line[1:13], strings.ReplaceAll(line[32:], ".", ""), money, ref))
	}
	switch err := sayOfPayments(l); {
	case day > 73048, len(l) > 300:
		return 0, nil, api.Fault{Err: api.ErrRange}
	case err != api.OK:
		return 0, nil, api.Fault{Err: err}
	case s != written(day, l):
		return 0, nil, api.Fault{Err: api.ErrState}
	}
	return day, l, api.Fault{}
}

func short(v any) string {
	s := fmt.Sprintf("%+v", v)
	return s[:min(len(s), 300)]
}

func accountIs(t *testing.T, body, want string, wantErr api.Errno) {
	t.Helper()
	if got, err := Account(body); got != want || err != wantErr {
		t.Errorf("Account(%q) = %q, %d; want %q, %d", body, got, err, want, wantErr)
	}
}

func isAccountIs(t *testing.T, s string, want bool) {
	t.Helper()
	if got := IsAccount(s); got != want {
		t.Errorf("IsAccount(%q) = %v", s, got)
	}
}

func printIs(t *testing.T, day int, l []api.Payment, want string, wantErr api.Errno) {
	t.Helper()
	if got, err := Print(day, l); got != want || err != wantErr {
		t.Errorf("Print(%d, %s) = %s, %d; want %s, %d", day, short(l), short(got), err, short(want), wantErr)
	}
}

func parseIs(t *testing.T, s string, day int, l []api.Payment, fault api.Fault) {
	t.Helper()
	if gotDay, got, gotFault := Parse(s); gotDay != day || !slices.Equal(got, l) || gotFault != fault {
		t.Errorf("Parse(%s) = %d, %s, %v; want %d, %s, %v", short(s), gotDay, short(got), gotFault, day, short(l), fault)
	}
}

func faultIs(t *testing.T, s string, err api.Errno, at int) {
	t.Helper()
	parseIs(t, s, 0, nil, api.Fault{Err: err, At: at})
}

func parseIsAsAsked(t *testing.T, s string) {
	t.Helper()
	day, l, fault := sayOfFile(s)
	parseIs(t, s, day, l, fault)
}

func rejectIs(t *testing.T, l []api.Payment, refs []int, left, rejected []api.Payment, wantErr api.Errno) {
	t.Helper()
	if x, y, err := Reject(l, refs); !slices.Equal(x, left) || !slices.Equal(y, rejected) || err != wantErr {
		t.Errorf("Reject(%s, %s) = %s, %s, %d; want %s, %s, %d", short(l), short(refs), short(x), short(y), err, short(left), short(rejected), wantErr)
	}
}

// refused holds Print and Reject against one error, whatever refs are asked for.
func refused(t *testing.T, l []api.Payment, want api.Errno) {
	t.Helper()
	printIs(t, 0, l, "", want)
	printIs(t, api.MaxDay, l, "", want)
	printIs(t, -1, l, "", api.ErrRange)
	for _, refs := range [][]int{nil, {0}, {5, 5}, {-1}, {999999, 1000000}} {
		rejectIs(t, l, refs, nil, nil, want)
	}
}

// Payments with which one thing alone is wrong, of their form, and of their numbers.
func noForms() []api.Payment {
	var l []api.Payment
	for _, account := range noAccounts() {
		l = append(l, pay(account, "a", 1, 1))
	}
	for _, name := range []string{"", "abcdefghijklm", "A", "aA", "Anna", "a.", ".", "a.b", "a b", " a", "a ", "a1", "a\n", "a\x00", "\xff", "é", "aé", "{", "`", "abcdefghijk.", "abcdefghijkl.", strings.Repeat("a", 1000)} {
		l = append(l, pay(anna, name, 1, 1))
	}
	return l
}

func noNumbers() []api.Payment {
	var l []api.Payment
	for _, money := range []int{math.MinInt, -api.MaxMoney, -1, 0, api.MaxMoney + 1, math.MaxInt} {
		l = append(l, pay(anna, "a", money, 1))
	}
	for _, ref := range []int{math.MinInt, -999999, -1, 1000000, math.MaxInt} {
		l = append(l, pay(anna, "a", 1, ref))
	}
	return l
}

func noAccounts() []string {
	return []string{
		"", "1", "1234567890", "12345678909", "1234567890920", "123456789091", "123456789093", "123456789192", "000000000000", "000000000001", "999999999999",
		"12345678909x", "x23456789092", " 23456789092", "+23456789092", "-23456789092", "12345678 092", "12345678909\n", "1234567890.2", "12345678909\xff", "12345678909\x00",
		"\u0661\u0662\u0663\u0664\u0665\u0666", "123456789\u0660\u0669", "\uff11\uff12\uff13\uff14", strings.Repeat("1", 1000),
	}
}
