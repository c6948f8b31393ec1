package history

import (
	"math"
	"slices"
	"testing"

	"paycycle/api"
)

var wrongRows = []api.Row{
	{From: -1}, {From: api.MaxDay + 1}, {From: math.MinInt}, {From: math.MaxInt}, {Seen: -1}, {Seen: api.MaxDay + 1}, {Seen: math.MinInt}, {Seen: math.MaxInt},
	{Value: api.MaxMoney + 1}, {Value: -api.MaxMoney - 1}, {Value: math.MinInt}, {Value: math.MaxInt}, {Value: 1, Gone: true}, {Value: -1, Gone: true}, {Value: api.MaxMoney, Gone: true},
}

var rightRows = []api.Row{
	{}, {Gone: true}, {From: api.MaxDay, Value: api.MaxMoney}, {Value: -api.MaxMoney}, {From: 5, Seen: 3, Value: -1}, {Seen: api.MaxDay, Gone: true}, {From: 1, Seen: api.MaxDay},
}

// refused holds all calls against one error: they tell what Check does, whatever else is wrong.
func refused(t *testing.T, h []api.Row, want api.Errno) {
	t.Helper()
	if got := Check(h); got != want {
		t.Errorf("Check(%v) = %d; want %d", h, got, want)
	}
	if l, err := Put(h, api.Row{From: -1}); len(l) != 0 || err != want {
		t.Errorf("Put into %v: %v, %d; want %d", h, l, err, want)
	}
	if v, ok, err := At(h, -1, 0); v != 0 || ok || err != want {
		t.Errorf("At of %v: %d, %v, %d; want %d", h, v, ok, err, want)
	}
	if l, err := Stretches(h, 3, 2, 0); len(l) != 0 || err != want {
		t.Errorf("Stretches of %v: %v, %d; want %d", h, l, err, want)
	}
	if v, ok, err := Differs(h, 0, -1); v != 0 || ok || err != want {
		t.Errorf("Differs of %v: %d, %v, %d; want %d", h, v, ok, err, want)
	}
}

func TestD1WrongHistories(t *testing.T) {
	for _, r := range wrongRows {
		refused(t, []api.Row{r}, api.ErrRange)
		refused(t, []api.Row{{}, {}, r}, api.ErrRange)
		refused(t, []api.Row{r, {}, {}}, api.ErrRange)
	}
	refused(t, make([]api.Row, api.MaxRows+1), api.ErrMany)
	refused(t, []api.Row{{Seen: 2}, {Seen: 1}}, api.ErrState)
	refused(t, []api.Row{{}, {Seen: 7}, {Seen: 7}, {Seen: 6}, {Seen: 9}}, api.ErrState)
}

func TestD1ErrorsInOrder(t *testing.T) {
	many := make([]api.Row, api.MaxRows+1)
	many[0], many[1] = api.Row{From: -1}, api.Row{Seen: 5}
	refused(t, many, api.ErrMany)
	refused(t, []api.Row{{Seen: 2}, {Seen: 1, From: -1}}, api.ErrRange)
	refused(t, []api.Row{{Seen: 2}, {Seen: 1}, {Value: 1, Gone: true}}, api.ErrRange)
	refused(t, append([]api.Row{{From: -1}}, make([]api.Row, api.MaxRows-1)...), api.ErrRange)
}

func TestD1RightHistories(t *testing.T) {
	for _, h := range [][]api.Row{nil, {}, rightRows, make([]api.Row, api.MaxRows)} {
		if err := Check(h); err != api.OK {
			t.Errorf("Check(%v) = %d", h, err)
		}
	}
}

func TestD2Put(t *testing.T) {
	h := []api.Row{{From: 5, Seen: 1, Value: 1}, {From: 4, Seen: 3, Gone: true}}
	for _, r := range []api.Row{{Seen: 3}, {From: 9, Seen: 4, Value: -7}, {From: api.MaxDay, Seen: api.MaxDay, Gone: true}} {
		got, err := Put(h, r)
		if want := []api.Row{h[0], h[1], r}; !slices.Equal(got, want) || err != api.OK {
			t.Errorf("Put(%v) = %v, %d; want %v", r, got, err, want)
		}
	}
	for _, r := range wrongRows {
		if got, err := Put(h, r); len(got) != 0 || err != api.ErrRange {
			t.Errorf("Put(%v) = %v, %d", r, got, err)
		}
	}
	for _, r := range []api.Row{{}, {Seen: 2}, {From: 70000, Seen: 2, Gone: true}} {
		if got, err := Put(h, r); len(got) != 0 || err != api.ErrState {
			t.Errorf("Put(%v) = %v, %d", r, got, err)
		}
	}
	if got, err := Put(nil, api.Row{Value: 2}); !slices.Equal(got, []api.Row{{Value: 2}}) || err != api.OK {
		t.Errorf("Put into none = %v, %d", got, err)
	}
	if got, err := Put(make([]api.Row, api.MaxRows-1), api.Row{}); len(got) != api.MaxRows || err != api.OK {
		t.Errorf("Put of the last row = %v, %d", got, err)
	}
	if got, err := Put(make([]api.Row, api.MaxRows), api.Row{From: -1}); len(got) != 0 || err != api.ErrMany {
		t.Errorf("Put of a row too many = %v, %d", got, err)
	}
}

func TestP2InputsAreOnlyRead(t *testing.T) {
	room := []api.Row{{From: 5, Value: 1}, {From: 7, Seen: 2, Value: 3}, {From: 9, Seen: 9, Value: 9}, {Value: 8}}
	before := slices.Clone(room)
	h := room[:2]
	one, _ := Put(h, api.Row{From: 1, Seen: 4, Value: 4})
	two, _ := Put(h, api.Row{From: 2, Seen: 5, Value: 5})
	Stretches(h, 0, 20, 9)
	Differs(h, 0, 9)
	At(h, 8, 9)
	one[0].Value = 77
	if !slices.Equal(room, before) {
		t.Errorf("what was handed in is %v now", room)
	}
	if !slices.Equal(two, []api.Row{{From: 5, Value: 1}, {From: 7, Seen: 2, Value: 3}, {From: 2, Seen: 5, Value: 5}}) {
		t.Errorf("a change of one answer is seen in another: %v", two)
	}
	room[0].Value = 55
	if two[0].Value != 1 {
		t.Errorf("a later change of what was handed in is seen: %v", two)
	}
}
