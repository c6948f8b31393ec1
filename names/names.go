// Package names: where things stand by their names, for all layers alike.
package names

import (
	"cmp"
	"slices"

	"paycycle/api"
)

// Places: where in a list each name stands; of several alike the last one.
func Places[T any](l []T, name func(T) string) map[string]int {
	places := make(map[string]int, len(l))
	for i, thing := range l {
		places[name(thing)] = i
	}
	return places
}

// Rise: does each name stand above the one ahead of it, byte by byte?
func Rise[T any](l []T, name func(T) string) bool {
	for i := 1; i < len(l); i++ {
		if name(l[i]) <= name(l[i-1]) {
			return false
		}
	}
	return true
}

// Amounts: what lies by names, rising by them, without what is 0.
func Amounts(sums map[string]int) []api.Amount {
	var l []api.Amount
	for name, sum := range sums {
		if sum != 0 {
			l = append(l, api.Amount{Name: name, Money: sum})
		}
	}
	slices.SortFunc(l, func(a, b api.Amount) int { return cmp.Compare(a.Name, b.Name) })
	return l
}

// Meant has the places of all that names in lines may mean.
type Meant struct{ Lines, Inputs, Tables, Years map[string]int }

// MeantIn tells what names mean in lines, and in what is known.
func MeantIn(l []api.Line, k api.Known) Meant {
	ofAmount := func(a api.Amount) string { return a.Name }
	return Meant{
		Lines:  Places(l, func(line api.Line) string { return line.Name }),
		Inputs: Places(k.Inputs, ofAmount),
		Tables: Places(k.Tables, func(t api.Table) string { return t.Name }),
		Years:  Places(k.Years, ofAmount),
	}
}
