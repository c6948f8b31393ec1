package bank

import (
	"math"
	"slices"
	"testing"

	"paycycle/api"
)

func TestP4Reject(t *testing.T) {
	a, b, c := pay(anna, "a", 1, 9), pay(bert, "b", 2, 0), pay(anna, "c", 3, 999999)
	l := []api.Payment{a, b, c}
	rejectIs(t, nil, nil, nil, nil, api.OK)
	rejectIs(t, l, nil, l, nil, api.OK)
	rejectIs(t, l, []int{}, l, nil, api.OK)
	rejectIs(t, l, []int{9}, []api.Payment{b, c}, []api.Payment{a}, api.OK)
	rejectIs(t, l, []int{0}, []api.Payment{a, c}, []api.Payment{b}, api.OK)
	rejectIs(t, l, []int{999999, 9}, []api.Payment{b}, []api.Payment{a, c}, api.OK)
	rejectIs(t, l, []int{999999, 0, 9}, nil, l, api.OK)
}

func TestP4Errors(t *testing.T) {
	l := []api.Payment{pay(anna, "a", 1, 9), pay(bert, "b", 2, 0)}
	for _, ref := range []int{math.MinInt, -1, 1, 10, 999999, 1000000, math.MaxInt} {
		for _, refs := range [][]int{{ref}, {9, ref}, {ref, 9}, {ref, ref}, {ref, 9, 9}, {9, 0, ref, 9}} {
			rejectIs(t, l, refs, nil, nil, api.ErrNone)
			rejectIs(t, nil, refs[len(refs)-1:], nil, nil, api.ErrNone)
		}
		rejectIs(t, l, []int{9, 9, ref}, nil, nil, api.ErrTwice)
		rejectIs(t, l, []int{9, 0, 9, ref}, nil, nil, api.ErrTwice)
	}
	rejectIs(t, l, []int{0, 0}, nil, nil, api.ErrTwice)
	rejectIs(t, l, slices.Repeat([]int{9}, 100000), nil, nil, api.ErrTwice)
}

// TestP5BothMakeAll: each payment is in one list, as its ref says, and in its order there.
func TestP5BothMakeAll(t *testing.T) {
	var d draw
	for n := range 600 {
		l := drawPayments(&d, n%60)
		var refs []int
		var left, rejected []api.Payment
		for _, p := range l {
			if d.below(3) == 0 {
				refs = append(refs, p.Ref)
				rejected = append(rejected, p)
			} else {
				left = append(left, p)
			}
		}
		for i := range refs {
			j := d.below(len(refs))
			refs[i], refs[j] = refs[j], refs[i]
		}
		rejectIs(t, l, refs, left, rejected, api.OK)
		if len(left) > 0 {
			rejectIs(t, rejected, append(refs, left[0].Ref), nil, nil, api.ErrNone)
		}
		if len(refs) > 0 {
			rejectIs(t, l, append(refs, refs[0]), nil, nil, api.ErrTwice)
		}
	}
}

// What is promised for all chapters: P1 is held in all tests, by what they ask of answers beside an error.

func TestAllP2InputsAreOnlyRead(t *testing.T) {
	room := append(row(3), pay("", "?", -1, -1), pay("", "?", -1, -1))
	refs := []int{2, 0, 7, 7}
	before, refsBefore := slices.Clone(room), slices.Clone(refs)
	l := room[:3]
	s, _ := Print(3, l)
	left, rejected, _ := Reject(l, refs[:2])
	all, _, _ := Reject(l, nil)
	_, none, _ := Reject(l, []int{0, 1, 2})
	_, parsed, _ := Parse(s)
	if !slices.Equal(room, before) || !slices.Equal(refs, refsBefore) {
		t.Errorf("what was handed in is %v, %v now", room, refs)
	}
	for _, answer := range [][]api.Payment{left, all, none, parsed} {
		for i := range answer[:cap(answer)] {
			answer[:cap(answer)][i] = pay("z", "z", 9, 9)
		}
	}
	if !slices.Equal(room, before) {
		t.Errorf("a change of an answer is seen in what was handed in: %v", room)
	}
	if !slices.Equal(rejected, []api.Payment{before[0], before[2]}) {
		t.Errorf("a change of one list is seen in the other one: %v", rejected)
	}
	parseIs(t, s, 3, before[:3], api.Fault{})
}

func TestAllP3TheSameEachTime(t *testing.T) {
	var d draw
	l := drawPayments(&d, 40)
	refs := []int{l[30].Ref, l[3].Ref, l[7].Ref}
	s := written(3, l)
	wantLeft, wantRejected, _ := Reject(l, refs)
	for range 50 {
		rejectIs(t, l, refs, wantLeft, wantRejected, api.OK)
		printIs(t, 3, l, s, api.OK)
		parseIs(t, s, 3, l, api.Fault{})
	}
}
