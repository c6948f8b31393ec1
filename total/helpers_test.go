package total

import (
	"fmt"
	"math"
	"slices"
	"testing"

	"paycycle/api"
)

// draw makes small numbers, the same each time.
type draw uint64

func (d *draw) below(n int) int {
	*d = *d*6364136223846793005 + 1442695040888963407
	return int(uint64(*d) >> 33 % uint64(n))
}

func of(person int, name string, year, money int) api.Total {
	return api.Total{Person: person, Name: name, Year: year, Money: money}
}

// The few persons, years and names that are drawn, in their order, so that much meets in two lists.
var (
	fewPersons = []int{1, 2, 11, 999}
	fewYears   = []int{2000, 2001, 2199}
	fewNames   = []string{"a", "aa", "ab", "b"}
)

// drawTotals has totals of the few, in any order, also more than once, and of 0.
func drawTotals(d *draw, n, most int) []api.Total {
	var l []api.Total
	for range n {
		l = append(l, of(fewPersons[d.below(len(fewPersons))], fewNames[d.below(len(fewNames))], fewYears[d.below(len(fewYears))], d.below(2*most+1)-most))
	}
	return l
}

// oneByOne goes through all that may be among the few, in their order, and adds up what lists have of it; false: something is no money.
func oneByOne(lists ...[]api.Total) ([]api.Total, bool) {
	all := slices.Concat(lists...)
	var l []api.Total
	for _, person := range fewPersons {
		for _, year := range fewYears {
			for _, name := range fewNames {
				sum := 0
				for _, t := range all {
					if t.Person == person && t.Year == year && t.Name == name {
						sum += t.Money
					}
				}
				if sum > api.MaxMoney || sum < -api.MaxMoney {
					return nil, false
				}
				if sum != 0 {
					l = append(l, of(person, name, year, sum))
				}
			}
		}
	}
	return l, true
}

// drawList has totals of the few, as Check asks for them.
func drawList(d *draw, n, most int) []api.Total {
	l, _ := oneByOne(drawTotals(d, n, most))
	return l
}

func turned(l []api.Total) []api.Total {
	var out []api.Total
	for _, t := range l {
		out = append(out, of(t.Person, t.Name, t.Year, -t.Money))
	}
	return out
}

// row has so many totals that rise, from a person on, with one name each.
func row(person, n int) []api.Total {
	var l []api.Total
	for i := range n {
		l = append(l, of(person+i, "a", 2000, 1))
	}
	return l
}

// short: how a list is told, if it is not as it must be.
func short(l []api.Total) string {
	s := fmt.Sprint(l)
	return s[:min(len(s), 300)]
}

func addIs(t *testing.T, l, more, want []api.Total, wantErr api.Errno) {
	t.Helper()
	if got, err := Add(l, more); !slices.Equal(got, want) || err != wantErr {
		t.Errorf("Add(%s, %s) = %s, %d; want %s, %d", short(l), short(more), short(got), err, short(want), wantErr)
	}
}

func lessIs(t *testing.T, l, other, want []api.Total, wantErr api.Errno) {
	t.Helper()
	if got, err := Less(l, other); !slices.Equal(got, want) || err != wantErr {
		t.Errorf("Less(%s, %s) = %s, %d; want %s, %d", short(l), short(other), short(got), err, short(want), wantErr)
	}
}

func ofIs(t *testing.T, l []api.Total, person, year int, want []api.Amount, wantErr api.Errno) {
	t.Helper()
	if got, err := Of(l, person, year); !slices.Equal(got, want) || err != wantErr {
		t.Errorf("Of(%s, %d, %d) = %v, %d; want %v, %d", short(l), person, year, got, err, want, wantErr)
	}
}

func sumIs(t *testing.T, l []api.Total, name string, year, want int, wantErr api.Errno) {
	t.Helper()
	if got, err := Sum(l, name, year); got != want || err != wantErr {
		t.Errorf("Sum(%s, %q, %d) = %d, %d; want %d, %d", short(l), name, year, got, err, want, wantErr)
	}
}

func gatherIs(t *testing.T, l, want []api.Total, wantErr api.Errno) {
	t.Helper()
	if got, err := Gather(l); !slices.Equal(got, want) || err != wantErr {
		t.Errorf("Gather(%s) = %s, %d; want %s, %d", short(l), short(got), err, short(want), wantErr)
	}
}

// refused holds all calls but Gather against one error: they tell what Check does, whatever else is wrong with what stands behind the list.
func refused(t *testing.T, l []api.Total, want api.Errno) {
	t.Helper()
	if got := Check(l); got != want {
		t.Errorf("Check(%s) = %d; want %d", short(l), got, want)
	}
	fine := []api.Total{of(1, "a", 2000, 5)}
	for _, behind := range [][]api.Total{nil, fine, {of(0, "a", 2000, 1)}, {of(1, "A", 2000, 1)}, {fine[0], fine[0]}, make([]api.Total, api.MaxTotals+1)} {
		addIs(t, l, behind, nil, want)
		lessIs(t, l, behind, nil, want)
	}
	for _, ahead := range [][]api.Total{nil, fine} {
		addIs(t, ahead, l, nil, want)
		lessIs(t, ahead, l, nil, want)
	}
	ofIs(t, l, 1, 2000, nil, want)
	ofIs(t, l, 0, 1999, nil, want)
	sumIs(t, l, "a", 2000, 0, want)
	sumIs(t, l, "", 1999, 0, want)
}

// Totals with which something is wrong, of each one thing alone; those of 0 may be gathered.
func outOfRange() []api.Total {
	var l []api.Total
	for _, n := range []int{math.MinInt, -1, 0, api.MaxPersons + 1, math.MaxInt} {
		l = append(l, of(n, "a", 2000, 1))
	}
	for _, n := range []int{math.MinInt, -2000, 0, 199, 1999, 2200, math.MaxInt} {
		l = append(l, of(1, "a", n, 1))
	}
	for _, n := range []int{math.MinInt, -api.MaxMoney - 1, api.MaxMoney + 1, math.MaxInt} {
		l = append(l, of(1, "a", 2000, n))
	}
	return l
}

func noNames() []string {
	return []string{"", "A", "aA", "a1", "a b", " a", "a ", "abcdefghi", "if", "year", "tax", "é", "a\x00", "\xff", "a-b"}
}
