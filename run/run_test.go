package run

import (
	"math"
	"slices"
	"testing"

	"paycycle/api"
)

func TestO1Right(t *testing.T) {
	for _, r := range []api.Run{
		{}, brought(1), brought(999), brought(1, 2), brought(2, 1), brought(1, 2, 3), brought(999, 1, 500),
		brought(1, 2, 3, 1), brought(1, 2, 3, 2), brought(1, 2, 3, 3), brought(1, 2, 3, 4),
		brought(1, 2, 3, 3, 1), brought(1, 2, 3, 4, 1), brought(1, 2, 3, 1, 2), brought(1, 2, 3, 4, 5),
		brought(1, 2, 3, 3, 1, 1), brought(1, 2, 3, 3, 1, 3), brought(1, 2, 3, 1, 2, 2), brought(1, 2, 3, 4, 5, 6),
	} {
		checkIs(t, r, api.OK)
	}
}

func TestO1Errors(t *testing.T) {
	for _, state := range []int{math.MinInt, -1, 7, 8, math.MaxInt} {
		checkIs(t, api.Run{State: state}, api.ErrKind)
		checkIs(t, api.Run{State: state, Who: [7]int{1, 1, 1, -1, 0, 1000, 7}}, api.ErrKind)
	}
	for _, who := range strangers() {
		for state := 1; state <= 6; state++ {
			r := brought(1, 2, 3, 4, 5, 6)
			r.Who[state] = who
			checkIs(t, r, api.ErrRange)
			r.Who[0] = 1
			checkIs(t, r, api.ErrRange)
		}
	}
	for _, who := range []int{math.MinInt, -1, 1, 9, 1000, math.MaxInt} {
		for state := range 7 {
			for place := range 7 {
				r := brought([]int{1, 2, 3, 4, 5, 6}[:state]...)
				if place == 0 || place > state {
					r.Who[place] = who
					checkIs(t, r, api.ErrState)
				}
			}
		}
	}
	for _, r := range []api.Run{
		brought(1, 1), brought(1, 1, 2), brought(1, 2, 1), brought(1, 2, 2), brought(5, 5, 5),
		brought(1, 2, 3, 4, 3), brought(1, 2, 3, 4, 4), brought(1, 2, 3, 3, 3), brought(1, 1, 3, 4, 5, 6), brought(1, 2, 1, 4, 5, 6), brought(1, 2, 2, 4, 5, 6), brought(1, 2, 3, 4, 3, 6), brought(1, 2, 3, 4, 4, 6),
	} {
		checkIs(t, r, api.ErrRight)
	}
}

// TestO1WhichError: of several the one that is named first.
func TestO1WhichError(t *testing.T) {
	checkIs(t, api.Run{State: 2, Who: [7]int{0, 1, 1000, 1}}, api.ErrRange)
	checkIs(t, api.Run{State: 3, Who: [7]int{0, 1, 1, 0}}, api.ErrRange)
	checkIs(t, api.Run{State: 2, Who: [7]int{0, 1, 1, 1}}, api.ErrState)
	checkIs(t, api.Run{State: 2, Who: [7]int{1, 1, 1}}, api.ErrState)
}

func TestO1AllRuns(t *testing.T) {
	allRuns([]int{0, 1, 2, 3}, func(r api.Run) { checkIs(t, r, sayOfRun(r)) })
	allRuns([]int{1, 999, 1000}, func(r api.Run) { checkIs(t, r, sayOfRun(r)) })
}

func TestO2Steps(t *testing.T) {
	stepIs(t, api.Run{}, act(api.RunCalculated, 4), brought(4), api.OK)
	stepIs(t, brought(4), act(api.RunCalculated, 5), brought(5), api.OK)
	stepIs(t, brought(4), act(api.RunCalculated, 4), brought(4), api.OK)
	stepIs(t, brought(4), act(api.RunReviewed, 5), brought(4, 5), api.OK)
	stepIs(t, brought(4, 5), act(api.RunApproved, 6), brought(4, 5, 6), api.OK)
	for _, who := range []int{1, 4, 5, 6, 999} {
		stepIs(t, brought(4, 5, 6), act(api.RunFunded, who), brought(4, 5, 6, who), api.OK)
		stepIs(t, brought(4, 5, 6, 7, 8), act(api.RunClosed, who), brought(4, 5, 6, 7, 8, who), api.OK)
	}
	for _, who := range []int{4, 5, 8, 999} {
		stepIs(t, brought(4, 5, 6, 7), act(api.RunReleased, who), brought(4, 5, 6, 7, who), api.OK)
	}
	for _, r := range []api.Run{brought(4), brought(4, 5), brought(4, 5, 6), brought(4, 5, 6, 7)} {
		for _, who := range []int{1, 4, 5, 6, 7, 999} {
			stepIs(t, r, act(api.ActionBack, who), api.Run{}, api.OK)
		}
	}
}

func TestO2Errors(t *testing.T) {
	for _, r := range rightRuns(1, 2, 3, 4) {
		for _, action := range noActions() {
			for _, who := range append(strangers(), 1, 999) {
				stepIs(t, r, act(action, who), r, api.ErrKind)
			}
		}
		for _, who := range strangers() {
			for action := 1; action <= 7; action++ {
				stepIs(t, r, act(action, who), r, api.ErrRange)
			}
		}
	}
	for _, r := range []api.Run{{}, brought(1, 2, 3, 4, 5), brought(1, 2, 3, 4, 5, 6)} {
		stepIs(t, r, act(api.ActionBack, 9), r, api.ErrState)
	}
	for _, r := range []api.Run{brought(1, 2), brought(1, 2, 3), brought(1, 2, 3, 4), brought(1, 2, 3, 4, 5), brought(1, 2, 3, 4, 5, 6)} {
		stepIs(t, r, act(r.State, 9), r, api.ErrState)
		stepIs(t, r, act(r.State, 1), r, api.ErrState)
	}
	stepIs(t, brought(4), act(api.RunReviewed, 4), brought(4), api.ErrRight)
	stepIs(t, brought(4, 5), act(api.RunApproved, 4), brought(4, 5), api.ErrRight)
	stepIs(t, brought(4, 5), act(api.RunApproved, 5), brought(4, 5), api.ErrRight)
	stepIs(t, brought(4, 5, 6, 7), act(api.RunReleased, 6), brought(4, 5, 6, 7), api.ErrRight)
	stepIs(t, brought(4, 5, 6, 7), act(api.RunReleased, 7), brought(4, 5, 6, 7), api.ErrRight)
}

// TestO2AllSteps: also of wrong runs, of which nothing is left.
func TestO2AllSteps(t *testing.T) {
	acts := func(r api.Run, do func(a api.Act)) {
		for action := -1; action <= 9; action++ {
			for _, who := range []int{-1, 0, 1, 2, 3, 4, 5, 999, 1000} {
				do(act(action, who))
			}
		}
	}
	for _, r := range rightRuns(1, 2, 3, 4, 999) {
		acts(r, func(a api.Act) {
			want, wantErr := sayOfStep(r, a)
			stepIs(t, r, a, want, wantErr)
		})
	}
	allRuns([]int{0, 1, 2}, func(r api.Run) {
		if err := sayOfRun(r); err != api.OK {
			stepIs(t, r, act(1, 1), api.Run{}, err)
			stepIs(t, r, act(7, 2), api.Run{}, err)
			stepIs(t, r, act(0, 2), api.Run{}, err)
			stepIs(t, r, act(2, 0), api.Run{}, err)
		}
	})
}

func TestO3May(t *testing.T) {
	for _, c := range []struct {
		r    api.Run
		who  int
		want []int
	}{
		{api.Run{}, 1, []int{1}}, {api.Run{}, 999, []int{1}},
		{brought(4), 4, []int{1, 7}}, {brought(4), 5, []int{1, 2, 7}},
		{brought(4, 5), 4, []int{7}}, {brought(4, 5), 5, []int{7}}, {brought(4, 5), 6, []int{3, 7}},
		{brought(4, 5, 6), 4, []int{4, 7}}, {brought(4, 5, 6), 6, []int{4, 7}}, {brought(4, 5, 6), 9, []int{4, 7}},
		{brought(4, 5, 6, 7), 6, []int{7}}, {brought(4, 5, 6, 7), 7, []int{7}}, {brought(4, 5, 6, 7), 4, []int{5, 7}}, {brought(4, 5, 6, 7), 9, []int{5, 7}},
		{brought(4, 5, 6, 7, 8), 8, []int{6}}, {brought(4, 5, 6, 7, 8), 1, []int{6}},
		{brought(4, 5, 6, 7, 8, 9), 9, nil}, {brought(4, 5, 6, 7, 8, 9), 1, nil},
	} {
		mayIs(t, c.r, c.who, c.want, api.OK)
	}
	for _, r := range rightRuns(1, 2, 3, 4, 999) {
		for _, who := range []int{1, 2, 3, 4, 5, 999} {
			var want []int
			for action := 1; action <= 7; action++ {
				if _, err := sayOfStep(r, act(action, who)); err == api.OK {
					want = append(want, action)
				}
			}
			mayIs(t, r, who, want, api.OK)
		}
	}
}

func TestO3MayErrors(t *testing.T) {
	for _, who := range strangers() {
		for _, r := range rightRuns(1, 2, 3) {
			mayIs(t, r, who, nil, api.ErrRange)
		}
		mayIs(t, api.Run{State: 7}, who, nil, api.ErrKind)
		mayIs(t, api.Run{State: 1}, who, nil, api.ErrRange)
		mayIs(t, api.Run{Who: [7]int{1}}, who, nil, api.ErrState)
		mayIs(t, brought(1, 1), who, nil, api.ErrRight)
	}
	allRuns([]int{0, 1, 2}, func(r api.Run) {
		if err := sayOfRun(r); err != api.OK {
			mayIs(t, r, 1, nil, err)
		}
	})
}

func TestO3Play(t *testing.T) {
	playIs(t, nil, api.Run{})
	playIs(t, []api.Act{act(7, 1)}, api.Run{}, api.ErrState)
	playIs(t, []api.Act{act(1, 1), act(2, 2), act(3, 3), act(4, 1), act(5, 2), act(6, 3)}, brought(1, 2, 3, 1, 2, 3), 0, 0, 0, 0, 0, 0)
	playIs(t, []api.Act{act(2, 1), act(1, 1), act(2, 1), act(8, 1), act(2, 1000), act(2, 2), act(3, 1), act(1, 3)}, brought(1, 2),
		api.ErrState, api.OK, api.ErrRight, api.ErrKind, api.ErrRange, api.OK, api.ErrRight, api.ErrState)
	playIs(t, []api.Act{act(1, 1), act(2, 2), act(7, 9), act(2, 2), act(1, 2), act(2, 1)}, brought(2, 1), 0, 0, 0, api.ErrState, 0, 0)
}

// drawActs leads on more often than not, so that plays come far.
func drawActs(d *draw, n, persons int) []api.Act {
	var l []api.Act
	next := 1
	for range n {
		a := act(next, 1+d.below(persons))
		switch d.below(9) {
		case 0:
			a.Action = d.below(9)
		case 1:
			a.Who = 1000 * d.below(2)
		default:
			next = next%6 + 1
		}
		l = append(l, a)
	}
	return l
}

func TestO4WhateverIsPlayed(t *testing.T) {
	var d draw
	released := 0
	for n := range 4000 {
		l := drawActs(&d, 1+n%40, 3+n%5)
		last, said := Play(l)
		var r api.Run
		for i, a := range l {
			may, _ := May(r, a.Who)
			if done := said[i] == api.OK; done != slices.Contains(may, a.Action) {
				t.Errorf("%v of %v: May tells %v, and Play %d", a, r, may, said[i])
			}
			var err api.Errno
			if r, err = sayOfStep(r, a); err != said[i] {
				t.Errorf("%v: %v, %d; want %d", l, said, i, err)
			}
			checkIs(t, r, api.OK)
		}
		if last != r {
			t.Errorf("Play(%v) = %v; want %v", l, last, r)
		}
		if last.State >= api.RunReleased {
			released++
			if w := last.Who; w[1] == w[2] || w[1] == w[3] || w[2] == w[3] || w[5] == w[3] || w[5] == w[4] {
				t.Errorf("%v is released", last)
			}
		}
	}
	if released < 100 {
		t.Errorf("only %d are released", released)
	}
}

func TestO4NoOneAlone(t *testing.T) {
	var d draw
	for n := range 4000 {
		if r, said := Play(drawActs(&d, 100, 1+n%2)); r.State > api.RunReviewed {
			t.Fatalf("two persons came to %v: %v", r, said)
		}
	}
}

func TestP2InputsAreOnlyRead(t *testing.T) {
	room := []api.Act{act(1, 1), act(2, 2), act(9, 9), act(3, 3)}
	before := slices.Clone(room)
	_, said := Play(room[:2])
	for i := range said[:cap(said)] {
		said[:cap(said)][i] = api.ErrLater
	}
	if !slices.Equal(room, before) {
		t.Errorf("what was handed in is %v now", room)
	}
	playIs(t, room[:2], brought(1, 2), 0, 0)
	may, _ := May(brought(1), 2)
	for i := range may[:cap(may)] {
		may[:cap(may)][i] = 99
	}
	mayIs(t, brought(1), 2, []int{1, 2, 7}, api.OK)
}

func TestP3TheSameEachTime(t *testing.T) {
	for range 50 {
		checkIs(t, brought(1, 2, 1, 4, 5, 6), api.ErrRight)
		stepIs(t, brought(1, 2, 3, 4), act(5, 3), brought(1, 2, 3, 4), api.ErrRight)
		mayIs(t, brought(1, 2), 3, []int{3, 7}, api.OK)
	}
}
