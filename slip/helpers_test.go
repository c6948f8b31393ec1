package slip

import (
	"fmt"
	"math"
	"regexp"
	"slices"
	"testing"

	"paycycle/api"
)

// draw makes small numbers, the same each time.
type draw uint64

func (d *draw) below(n int) int {
	*d = *d*6364136223846793005 + 1442695040888963407
	return int(uint64(*d) >> 33 % uint64(n))
}

const most = api.MaxMoney

func of(name string, money int) api.Amount { return api.Amount{Name: name, Money: money} }

func made(number, person, run int, totals ...api.Amount) api.Slip {
	return api.Slip{Number: number, Person: person, Run: run, Totals: totals}
}

func gone(s api.Slip) api.Slip {
	s.Gone = true
	return s
}

// row has so many slips, of three persons.
func row(n int) []api.Slip {
	var l []api.Slip
	for i := range n {
		l = append(l, made(1+i, 1+i%3, 1+i/3, of("a", 1+i)))
	}
	return l
}

// long has so many amounts, whose names rise.
func long(n int) []api.Amount {
	var l []api.Amount
	for i := range n {
		l = append(l, of(string([]byte{'a' + byte(i/26), 'a' + byte(i%26), 'x'}), 1))
	}
	return l
}

func fewNames() []string { return []string{"a", "aa", "ab", "b", "pay"} }

// drawSlips has slips of few persons and runs, some of which do not stand.
func drawSlips(d *draw, n, persons, greatest int) []api.Slip {
	var l []api.Slip
	number := 0
	for range n {
		number += 1 + d.below(3)
		s := made(number, 1+d.below(persons), 1+d.below(4))
		s.Gone = d.below(4) == 0
		for _, name := range fewNames() {
			if money := d.below(2*greatest+1) - greatest; money != 0 && d.below(2) == 0 {
				s.Totals = append(s.Totals, of(name, money))
			}
		}
		l = append(l, s)
	}
	return l
}

var (
	nameForm  = regexp.MustCompile(`^[a-z]{1,8}$`)
	wordForms = regexp.MustCompile(`^(earn|take|tax|let|if|then|else|of|year|table|min|max)$`)
)

// sayOfSlip is what R1 asks of one slip.
func sayOfSlip(s api.Slip) api.Errno {
	for _, n := range []int{s.Number, s.Person, s.Run} {
		if n < 1 || n > 999 {
			return api.ErrRange
		}
	}
	if len(s.Totals) > 30 {
		return api.ErrMany
	}
	noNames, noMoney, noRise := 0, 0, 0
	for i, a := range s.Totals {
		if !nameForm.MatchString(a.Name) || wordForms.MatchString(a.Name) {
			noNames++
		}
		if a.Money < -1000000000000 || a.Money > 1000000000000 || a.Money == 0 {
			noMoney++
		}
		for _, ahead := range s.Totals[:i] {
			if ahead.Name >= a.Name {
				noRise++
			}
		}
	}
	switch {
	case noNames > 0:
		return api.ErrForm
	case noMoney > 0:
		return api.ErrRange
	case noRise > 0:
		return api.ErrTwice
	}
	return api.OK
}

// sayOfSlips is what R1 asks of Check.
func sayOfSlips(l []api.Slip) api.Errno {
	if len(l) > 200 {
		return api.ErrMany
	}
	for _, s := range l {
		if err := sayOfSlip(s); err != api.OK {
			return err
		}
	}
	for i, s := range l {
		for _, ahead := range l[:i] {
			if s.Number <= ahead.Number {
				return api.ErrState
			}
		}
	}
	return api.OK
}

// totalsOneByOne goes through all slips for each of the few names.
func totalsOneByOne(l []api.Slip, person int) []api.Amount {
	var amounts []api.Amount
	for _, name := range fewNames() {
		sum := 0
		for _, s := range l {
			for _, a := range s.Totals {
				if s.Person == person && !s.Gone && a.Name == name {
					sum += a.Money
				}
			}
		}
		if sum != 0 {
			amounts = append(amounts, of(name, sum))
		}
	}
	return amounts
}

// standing has the numbers of somebody's slips that stand, from a number on, the last one first.
func standing(l []api.Slip, person, from int) []int {
	var numbers []int
	for _, s := range l {
		if s.Person == person && !s.Gone && s.Number >= from {
			numbers = append(numbers, s.Number)
		}
	}
	slices.Reverse(numbers)
	return numbers
}

// without makes slips with some numbers void.
func without(l []api.Slip, numbers []int) []api.Slip {
	after := deepCopy(l)
	for i, s := range after {
		if slices.Contains(numbers, s.Number) {
			after[i] = gone(s)
		}
	}
	return after
}

// sayOfVoid is what R3 asks of Void, of slips that may be.
func sayOfVoid(l []api.Slip, number int, cascade bool) ([]api.Slip, []int, api.Errno) {
	for _, s := range l {
		if s.Number != number {
			continue
		}
		numbers := standing(l, s.Person, number)
		switch {
		case s.Gone:
			return nil, nil, api.ErrState
		case len(numbers) > 1 && !cascade:
			return nil, nil, api.ErrLater
		}
		return without(l, numbers), numbers, api.OK
	}
	return nil, nil, api.ErrNone
}

// sayOfVoidRun is what R3 asks of VoidRun, of slips that may be: persons are sought by the least numbers that stand in the run.
func sayOfVoidRun(l []api.Slip, run int) ([]api.Slip, []int, api.Errno) {
	leasts := map[int]int{}
	for _, s := range slices.Backward(l) {
		if s.Run == run && !s.Gone {
			leasts[s.Person] = s.Number
		}
	}
	var numbers []int
	for number := range 1000 {
		for person, least := range leasts {
			if least == number {
				numbers = append(numbers, standing(l, person, least)...)
			}
		}
	}
	if len(numbers) == 0 {
		return nil, nil, api.ErrNone
	}
	return without(l, numbers), numbers, api.OK
}

func slipsEqual(a, b []api.Slip) bool {
	return slices.EqualFunc(a, b, func(x, y api.Slip) bool {
		return x.Number == y.Number && x.Person == y.Person && x.Run == y.Run && x.Gone == y.Gone && slices.Equal(x.Totals, y.Totals)
	})
}

func deepCopy(l []api.Slip) []api.Slip {
	var fresh []api.Slip
	for _, s := range l {
		s.Totals = append([]api.Amount{}, s.Totals...)
		fresh = append(fresh, s)
	}
	return fresh
}

// short: how a thing is told, if it is not as it must be.
func short(v any) string {
	s := fmt.Sprint(v)
	return s[:min(len(s), 300)]
}

func checkIs(t *testing.T, l []api.Slip, want api.Errno) {
	t.Helper()
	if got := Check(l); got != want {
		t.Errorf("Check(%s) = %d; want %d", short(l), got, want)
	}
}

func totalsAre(t *testing.T, l []api.Slip, person int, want []api.Amount, wantErr api.Errno) {
	t.Helper()
	if got, err := Totals(l, person); !slices.Equal(got, want) || err != wantErr {
		t.Errorf("Totals(%s, %d) = %s, %d; want %s, %d", short(l), person, short(got), err, short(want), wantErr)
	}
}

func voidIs(t *testing.T, l []api.Slip, number int, cascade bool, want []api.Slip, wantGone []int, wantErr api.Errno) {
	t.Helper()
	if got, gone, err := Void(l, number, cascade); !slipsEqual(got, want) || !slices.Equal(gone, wantGone) || err != wantErr {
		t.Errorf("Void(%s, %d, %v) = %s, %v, %d; want %s, %v, %d", short(l), number, cascade, short(got), gone, err, short(want), wantGone, wantErr)
	}
}

func voidRunIs(t *testing.T, l []api.Slip, run int, want []api.Slip, wantGone []int, wantErr api.Errno) {
	t.Helper()
	if got, gone, err := VoidRun(l, run); !slipsEqual(got, want) || !slices.Equal(gone, wantGone) || err != wantErr {
		t.Errorf("VoidRun(%s, %d) = %s, %v, %d; want %s, %v, %d", short(l), run, short(got), gone, err, short(want), wantGone, wantErr)
	}
}

func lastsAre(t *testing.T, l []api.Slip, want []int, wantErr api.Errno) {
	t.Helper()
	if got, err := Lasts(l); !slices.Equal(got, want) || err != wantErr {
		t.Errorf("Lasts(%s) = %v, %d; want %v, %d", short(l), got, err, want, wantErr)
	}
}

// refused holds all calls against one error: they tell what Check does, whatever else is wrong with what they are asked.
func refused(t *testing.T, l []api.Slip, want api.Errno) {
	t.Helper()
	checkIs(t, l, want)
	lastsAre(t, l, nil, want)
	for _, n := range []int{-1, 0, 1, 5, 999, 1000} {
		totalsAre(t, l, n, nil, want)
		voidIs(t, l, n, false, nil, nil, want)
		voidIs(t, l, n, true, nil, nil, want)
		voidRunIs(t, l, n, nil, nil, want)
	}
}

func noNumbers() []int {
	return []int{math.MinInt, -1, 0, api.MaxPersons + 1, math.MaxInt}
}

func noNames() []string {
	return []string{"", "A", "aA", "a1", "a b", " a", "a ", "abcdefghi", "earn", "take", "tax", "let", "if", "then", "else", "of", "year", "table", "min", "max", "é", "a\x00", "\xff", "a-b"}
}

func noMoneys() []int {
	return []int{math.MinInt, -most - 1, 0, most + 1, math.MaxInt}
}
