package run

import (
	"math"
	"slices"
	"testing"

	"paycycle/api"
)

// draw makes small numbers, the same each time.
type draw uint64

func (d *draw) below(n int) int {
	*d = *d*6364136223846793005 + 1442695040888963407
	return int(uint64(*d) >> 33 % uint64(n))
}

func brought(who ...int) api.Run {
	r := api.Run{State: len(who)}
	copy(r.Who[1:], who)
	return r
}

func act(action, who int) api.Act { return api.Act{Action: action, Who: who} }

func strangers() []int {
	return []int{math.MinInt, -999, -1, 0, api.MaxPersons + 1, math.MaxInt}
}

func noActions() []int {
	return []int{math.MinInt, -7, -1, 0, 8, 9, math.MaxInt}
}

// sayOfRun is what O1 asks of Check, pair by pair of states that two persons must have brought about.
func sayOfRun(r api.Run) api.Errno {
	if r.State < 0 || r.State > 6 {
		return api.ErrKind
	}
	for i := 1; i <= r.State; i++ {
		if r.Who[i] < 1 || r.Who[i] > 999 {
			return api.ErrRange
		}
	}
	for i := range 7 {
		if (i == 0 || i > r.State) && r.Who[i] != 0 {
			return api.ErrState
		}
	}
	for _, p := range [][2]int{{1, 2}, {1, 3}, {2, 3}, {3, 5}, {4, 5}} {
		if p[1] <= r.State && r.Who[p[0]] == r.Who[p[1]] {
			return api.ErrRight
		}
	}
	return api.OK
}

// froms: out of which states each action leads.
func froms(action int) []int {
	return [][]int{nil, {0, 1}, {1}, {2}, {3}, {4}, {5}, {1, 2, 3, 4}}[action]
}

// sayOfStep is what O2 asks of Step: who may not do something would make a run that O1 refuses.
func sayOfStep(r api.Run, a api.Act) (api.Run, api.Errno) {
	if err := sayOfRun(r); err != api.OK {
		return api.Run{}, err
	}
	switch {
	case a.Action < 1 || a.Action > 7:
		return r, api.ErrKind
	case a.Who < 1 || a.Who > 999:
		return r, api.ErrRange
	case !slices.Contains(froms(a.Action), r.State):
		return r, api.ErrState
	case a.Action == 7:
		return api.Run{}, api.OK
	}
	next := r
	next.State, next.Who[a.Action] = a.Action, a.Who
	if sayOfRun(next) != api.OK {
		return r, api.ErrRight
	}
	return next, api.OK
}

// allRuns has each run whose persons are among a few, whether it may be or not.
func allRuns(few []int, do func(r api.Run)) {
	var r api.Run
	var from func(place int)
	from = func(place int) {
		if place == len(r.Who) {
			for r.State = -1; r.State <= 7; r.State++ {
				do(r)
			}
			return
		}
		for _, who := range few {
			r.Who[place] = who
			from(place + 1)
		}
	}
	from(0)
}

// rightRuns has each run that may be, whose persons are among a few.
func rightRuns(few ...int) []api.Run {
	l := []api.Run{{}}
	for i := 0; i < len(l); i++ {
		for _, who := range few {
			next := l[i]
			if next.State == 6 {
				continue
			}
			next.State++
			next.Who[next.State] = who
			if sayOfRun(next) == api.OK {
				l = append(l, next)
			}
		}
	}
	return l
}

func checkIs(t *testing.T, r api.Run, want api.Errno) {
	t.Helper()
	if got := Check(r); got != want {
		t.Errorf("Check(%v) = %d; want %d", r, got, want)
	}
}

func stepIs(t *testing.T, r api.Run, a api.Act, want api.Run, wantErr api.Errno) {
	t.Helper()
	if got, err := Step(r, a); got != want || err != wantErr {
		t.Errorf("Step(%v, %v) = %v, %d; want %v, %d", r, a, got, err, want, wantErr)
	}
}

func mayIs(t *testing.T, r api.Run, who int, want []int, wantErr api.Errno) {
	t.Helper()
	if got, err := May(r, who); !slices.Equal(got, want) || err != wantErr {
		t.Errorf("May(%v, %d) = %v, %d; want %v, %d", r, who, got, err, want, wantErr)
	}
}

func playIs(t *testing.T, l []api.Act, want api.Run, wantSaid ...api.Errno) {
	t.Helper()
	if got, said := Play(l); got != want || !slices.Equal(said, wantSaid) {
		t.Errorf("Play(%v) = %v, %v; want %v, %v", l, got, said, want, wantSaid)
	}
}
