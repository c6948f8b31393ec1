package ledger

import (
	"fmt"
	"maps"
	"math"
	"regexp"
	"slices"
	"testing"

	"paycycle/api"
)

// draw makes small numbers, the same each time.
type draw uint64

func (d *draw) below(n int) int {
	*d = *d*6364136223846793005 + 1442695040888963407
	return int(uint64(*d) >> 33 % uint64(n))
}

const most = api.MaxMoney

func to(account string, money int) api.Posting {
	return api.Posting{Account: account, Money: money}
}

func entry(day int, postings ...api.Posting) api.Entry {
	return api.Entry{Day: day, Postings: postings}
}

// two has an entry that moves money from an account to another one.
func two(day int, account, other string, money int) api.Entry {
	return entry(day, to(account, money), to(other, -money))
}

// row has so many entries, of days one behind the other.
func row(n int) []api.Entry {
	var j []api.Entry
	for i := range n {
		j = append(j, two(i, "a", "b", 1+i))
	}
	return j
}

// wide has an entry with so many postings.
func wide(day, n int) api.Entry {
	e := entry(day, to("a", n-1))
	for range n - 1 {
		e.Postings = append(e.Postings, to("b", -1))
	}
	return e
}

func fewAccounts() []string { return []string{"a", "aa", "ab", "b", "cash", "zzzzzzzz"} }

// drawEntry comes to 0, of few accounts, some of them more than once.
func drawEntry(d *draw, day, greatest int) api.Entry {
	few := fewAccounts()
	e := entry(day)
	all := 0
	for range 1 + d.below(5) {
		money := 1 + d.below(greatest)
		if d.below(2) == 0 {
			money = -money
		}
		all += money
		e.Postings = append(e.Postings, to(few[d.below(len(few))], money))
	}
	if all == 0 {
		all = -greatest
		e.Postings = append(e.Postings, to(few[d.below(len(few))], -greatest))
	}
	e.Postings = append(e.Postings, to(few[d.below(len(few))], -all))
	return e
}

// drawJournal has entries of few days, up to day 9.
func drawJournal(d *draw, n, greatest int) []api.Entry {
	var days []int
	for range n {
		days = append(days, d.below(10))
	}
	slices.Sort(days)
	var j []api.Entry
	for _, day := range days {
		j = append(j, drawEntry(d, day, greatest))
	}
	return j
}

var (
	nameForm  = regexp.MustCompile(`^[a-z]{1,8}$`)
	wordForms = regexp.MustCompile(`^(earn|take|tax|let|if|then|else|of|year|table|min|max)$`)
)

// sayOfEntry is what Q1 asks of one entry.
func sayOfEntry(e api.Entry) api.Errno {
	if e.Day < 0 || e.Day > 73048 {
		return api.ErrRange
	}
	if len(e.Postings) < 2 || len(e.Postings) > 20 {
		return api.ErrMany
	}
	noNames, noMoney, all := 0, 0, 0
	for _, p := range e.Postings {
		if !nameForm.MatchString(p.Account) || wordForms.MatchString(p.Account) {
			noNames++
		}
		if p.Money < -1000000000000 || p.Money > 1000000000000 || p.Money == 0 {
			noMoney++
		}
		all += p.Money
	}
	switch {
	case noNames > 0:
		return api.ErrForm
	case noMoney > 0:
		return api.ErrRange
	case all != 0:
		return api.ErrState
	}
	return api.OK
}

// sayOfJournal is what Q1 asks of Check.
func sayOfJournal(j []api.Entry) api.Errno {
	if len(j) > 100 {
		return api.ErrMany
	}
	for _, e := range j {
		if err := sayOfEntry(e); err != api.OK {
			return err
		}
	}
	for i, e := range j {
		for _, ahead := range j[:i] {
			if e.Day < ahead.Day {
				return api.ErrState
			}
		}
	}
	return api.OK
}

// movedOneByOne goes through a whole journal for one account: what came to it, and what went.
func movedOneByOne(j []api.Entry, account string, from, to int) (int, int) {
	in, out := 0, 0
	for _, e := range j {
		for _, p := range e.Postings {
			if p.Account == account && e.Day >= from && e.Day <= to {
				in += max(p.Money, 0)
				out += max(-p.Money, 0)
			}
		}
	}
	return in, out
}

// trialOneByOne asks for each account that a journal has.
func trialOneByOne(j []api.Entry, day int) []api.Amount {
	accounts := map[string]int{}
	for _, e := range j {
		for _, p := range e.Postings {
			accounts[p.Account]++
		}
	}
	var l []api.Amount
	for _, account := range slices.Sorted(maps.Keys(accounts)) {
		if in, out := movedOneByOne(j, account, 0, day); in != out {
			l = append(l, api.Amount{Name: account, Money: in - out})
		}
	}
	return l
}

func entriesEqual(a, b api.Entry) bool {
	return a.Day == b.Day && slices.Equal(a.Postings, b.Postings)
}

func journalsEqual(a, b []api.Entry) bool { return slices.EqualFunc(a, b, entriesEqual) }

func deepCopy(j []api.Entry) []api.Entry {
	var fresh []api.Entry
	for _, e := range j {
		fresh = append(fresh, entry(e.Day, append([]api.Posting{}, e.Postings...)...))
	}
	return fresh
}

// short: how a thing is told, if it is not as it must be.
func short(v any) string {
	s := fmt.Sprint(v)
	return s[:min(len(s), 300)]
}

func checkIs(t *testing.T, j []api.Entry, want api.Errno) {
	t.Helper()
	if got := Check(j); got != want {
		t.Errorf("Check(%s) = %d; want %d", short(j), got, want)
	}
}

func postIs(t *testing.T, j []api.Entry, e api.Entry, want []api.Entry, wantErr api.Errno) {
	t.Helper()
	if got, err := Post(j, e); !journalsEqual(got, want) || err != wantErr {
		t.Errorf("Post(%s, %s) = %s, %d; want %s, %d", short(j), short(e), short(got), err, short(want), wantErr)
	}
}

func turnIs(t *testing.T, e, want api.Entry, wantErr api.Errno) {
	t.Helper()
	if got, err := Turn(e); !entriesEqual(got, want) || err != wantErr {
		t.Errorf("Turn(%s) = %s, %d; want %s, %d", short(e), short(got), err, short(want), wantErr)
	}
}

func balanceIs(t *testing.T, j []api.Entry, account string, day, want int, wantErr api.Errno) {
	t.Helper()
	if got, err := Balance(j, account, day); got != want || err != wantErr {
		t.Errorf("Balance(%s, %q, %d) = %d, %d; want %d, %d", short(j), account, day, got, err, want, wantErr)
	}
}

func movedIs(t *testing.T, j []api.Entry, account string, from, to, wantIn, wantOut int, wantErr api.Errno) {
	t.Helper()
	if in, out, err := Moved(j, account, from, to); in != wantIn || out != wantOut || err != wantErr {
		t.Errorf("Moved(%s, %q, %d, %d) = %d, %d, %d; want %d, %d, %d", short(j), account, from, to, in, out, err, wantIn, wantOut, wantErr)
	}
}

func trialIs(t *testing.T, j []api.Entry, day int, want []api.Amount, wantErr api.Errno) {
	t.Helper()
	if got, err := Trial(j, day); !slices.Equal(got, want) || err != wantErr {
		t.Errorf("Trial(%s, %d) = %s, %d; want %s, %d", short(j), day, short(got), err, short(want), wantErr)
	}
}

// refused holds all calls that are handed a journal against one error: they tell what Check does, whatever else is wrong with what they are asked.
func refused(t *testing.T, j []api.Entry, want api.Errno) {
	t.Helper()
	checkIs(t, j, want)
	for _, e := range []api.Entry{two(api.MaxDay, "a", "b", 1), two(0, "a", "b", 1), {}, entry(-1), two(5, "if", "b", 1), two(5, "a", "b", 0), entry(5, to("a", 1), to("b", 1))} {
		postIs(t, j, e, nil, want)
	}
	balanceIs(t, j, "a", 5, 0, want)
	balanceIs(t, j, "", -1, 0, want)
	movedIs(t, j, "a", 0, 5, 0, 0, want)
	movedIs(t, j, "", 5, -1, 0, 0, want)
	trialIs(t, j, 5, nil, want)
	trialIs(t, j, -1, nil, want)
}

func noDays() []int {
	return []int{math.MinInt, -1, api.MaxDay + 1, math.MaxInt}
}

func noNames() []string {
	return []string{"", "A", "aA", "a1", "a b", " a", "a ", "abcdefghi", "earn", "take", "tax", "let", "if", "then", "else", "of", "year", "table", "min", "max", "é", "a\x00", "\xff", "a-b"}
}

// noMoneys has pairs, which come to 0 where numbers wrap round, too.
func noMoneys() [][2]int {
	return [][2]int{{0, 0}, {most + 1, -most - 1}, {-most - 1, most + 1}, {math.MaxInt, -math.MaxInt}, {math.MinInt, math.MinInt}, {0, 1}, {1, 0}, {most + 1, -most}}
}
