package history

import (
	"math"
	"slices"
	"testing"

	"paycycle/api"
)

// draw makes small numbers, the same each time.
type draw uint64

func (d *draw) below(n int) int {
	*d = *d*6364136223846793005 + 1442695040888963407
	return int(uint64(*d) >> 33 % uint64(n))
}

const lastSmall = 12

// small histories: rows of days up to lastSmall, so that days and knowledge meet often; at times one begins or is seen at the last day.
func small(d *draw) []api.Row {
	var rows []api.Row
	seen := 0
	for range d.below(9) {
		seen += d.below(3)
		r := api.Row{From: d.below(lastSmall + 1), Seen: seen, Value: d.below(3) - 1, Gone: d.below(4) == 0}
		if r.Gone {
			r.Value = 0
		}
		if d.below(9) == 0 {
			r.From = api.MaxDay
		}
		rows = append(rows, r)
	}
	return rows
}

type told struct {
	value int
	some  bool
}

// look finds what holds in another way than the program: it lays the rows that count in order, and takes the last one.
func look(h []api.Row, day, seen int) told {
	var rows []api.Row
	for _, r := range h {
		if r.Seen <= seen && r.From <= day {
			rows = append(rows, r)
		}
	}
	slices.SortStableFunc(rows, func(a, b api.Row) int { return a.From - b.From })
	if len(rows) == 0 || rows[len(rows)-1].Gone {
		return told{}
	}
	return told{rows[len(rows)-1].Value, true}
}

func at(t *testing.T, h []api.Row, day, seen int) told {
	t.Helper()
	value, some, err := At(h, day, seen)
	if err != api.OK {
		t.Fatalf("At(%v, %d, %d): %d", h, day, seen, err)
	}
	return told{value, some}
}

var edgeDays = []int{api.MaxDay - 1, api.MaxDay}

func smallDays() []int {
	var days []int
	for day := range lastSmall + 2 {
		days = append(days, day)
	}
	return append(days, edgeDays...)
}

func TestD2AtInAnotherWay(t *testing.T) {
	d := draw(1)
	for range 2000 {
		h := small(&d)
		for _, day := range smallDays() {
			for _, seen := range smallDays() {
				if got, want := at(t, h, day, seen), look(h, day, seen); got != want {
					t.Fatalf("At(%v, %d, %d) = %v; want %v", h, day, seen, got, want)
				}
			}
		}
	}
}

func TestD2AtWritten(t *testing.T) {
	h := []api.Row{{From: 3, Value: 7}, {From: 10, Seen: 2, Value: 8}, {From: 3, Seen: 4, Value: 9}, {From: 10, Seen: 4, Gone: true}, {From: 20, Seen: 4}}
	for _, c := range []struct {
		day, seen int
		want      told
	}{
		{2, 9, told{}}, {3, 0, told{7, true}}, {4, 0, told{7, true}}, {10, 1, told{7, true}}, {10, 2, told{8, true}}, {9, 3, told{7, true}}, {9, 4, told{9, true}},
		{10, 4, told{}}, {19, 9, told{}}, {20, 9, told{0, true}}, {api.MaxDay, api.MaxDay, told{0, true}}, {api.MaxDay, 3, told{8, true}},
	} {
		if got := at(t, h, c.day, c.seen); got != c.want {
			t.Errorf("At(%d, %d) = %v; want %v", c.day, c.seen, got, c.want)
		}
	}
}

var wrongDays = []int{math.MinInt, -1, api.MaxDay + 1, math.MaxInt}

func TestD2D3WrongDays(t *testing.T) {
	h := []api.Row{{Value: 1}, {From: 5, Seen: 3, Value: 2}}
	for _, wrong := range wrongDays {
		for _, c := range [][2]int{{wrong, 0}, {0, wrong}, {wrong, wrong}} {
			if v, ok, err := At(h, c[0], c[1]); v != 0 || ok || err != api.ErrRange {
				t.Errorf("At(%v) = %d, %v, %d", c, v, ok, err)
			}
			if v, ok, err := Differs(h, c[0], c[1]); v != 0 || ok || err != api.ErrRange {
				t.Errorf("Differs(%v) = %d, %v, %d", c, v, ok, err)
			}
		}
		for _, c := range [][3]int{{wrong, 5, 3}, {1, wrong, 3}, {1, 5, wrong}} {
			if l, err := Stretches(h, c[0], c[1], c[2]); len(l) != 0 || err != api.ErrRange {
				t.Errorf("Stretches(%v) = %v, %d", c, l, err)
			}
		}
	}
	for _, c := range [][2]int{{5, 4}, {1, 0}, {api.MaxDay, 0}} {
		if l, err := Stretches(h, c[0], c[1], 3); len(l) != 0 || err != api.ErrRange {
			t.Errorf("Stretches(%v) = %v, %d", c, l, err)
		}
	}
}

// dayByDay joins days one by one, each with the one ahead of it, if both are alike.
func dayByDay(h []api.Row, from, to, seen int) []api.Stretch {
	var list []api.Stretch
	for day := from; day <= to; day++ {
		now := look(h, day, seen)
		if n := len(list); n > 0 && list[n-1].Value == now.value && list[n-1].Some == now.some {
			list[n-1].To = day
			continue
		}
		list = append(list, api.Stretch{From: day, To: day, Value: now.value, Some: now.some})
	}
	return list
}

func TestD3StretchesDayByDay(t *testing.T) {
	d := draw(2)
	for range 500 {
		h := small(&d)
		for _, seen := range []int{0, 1, 3, 5, 9, 17, api.MaxDay} {
			for _, c := range [][2]int{{0, lastSmall + 1}, {0, 0}, {2, 9}, {3, 4}, {7, 7}, {lastSmall, 30}, {api.MaxDay - 2, api.MaxDay}, {api.MaxDay, api.MaxDay}} {
				got, err := Stretches(h, c[0], c[1], seen)
				if want := dayByDay(h, c[0], c[1], seen); !slices.Equal(got, want) || err != api.OK {
					t.Fatalf("Stretches(%v, %v, %d) = %v, %d; want %v", h, c, seen, got, err, want)
				}
			}
		}
	}
}

func TestD3StretchesWritten(t *testing.T) {
	all := []api.Row{{From: 5, Value: 1}, {From: 8, Value: 1}, {From: 9}, {From: 10, Gone: true}, {From: 11, Seen: 1, Gone: true}, {From: 12, Seen: 2, Value: 4}, {From: 10, Seen: 3}}
	for _, c := range []struct {
		seen int
		want []api.Stretch
	}{
		{1, []api.Stretch{{From: 0, To: 4}, {From: 5, To: 8, Value: 1, Some: true}, {From: 9, To: 9, Some: true}, {From: 10, To: api.MaxDay}}},
		{2, []api.Stretch{{From: 0, To: 4}, {From: 5, To: 8, Value: 1, Some: true}, {From: 9, To: 9, Some: true}, {From: 10, To: 11}, {From: 12, To: api.MaxDay, Value: 4, Some: true}}},
		{3, []api.Stretch{{From: 0, To: 4}, {From: 5, To: 8, Value: 1, Some: true}, {From: 9, To: 10, Some: true}, {From: 11, To: 11}, {From: 12, To: api.MaxDay, Value: 4, Some: true}}},
	} {
		if got, err := Stretches(all, 0, api.MaxDay, c.seen); !slices.Equal(got, c.want) || err != api.OK {
			t.Errorf("as known at %d: %v, %d; want %v", c.seen, got, err, c.want)
		}
	}
	if got, err := Stretches(nil, 0, api.MaxDay, 0); !slices.Equal(got, []api.Stretch{{To: api.MaxDay}}) || err != api.OK {
		t.Errorf("of no rows: %v, %d", got, err)
	}
}

func TestD3DiffersDayByDay(t *testing.T) {
	d := draw(3)
	for range 2000 {
		h := small(&d)
		for range 20 {
			was, is := d.below(lastSmall+6), d.below(lastSmall+6)
			want, wantSome := 0, false
			for _, day := range smallDays() {
				if look(h, day, was) != look(h, day, is) {
					want, wantSome = day, true
					break
				}
			}
			if got, some, err := Differs(h, was, is); got != want || some != wantSome || err != api.OK {
				t.Fatalf("Differs(%v, %d, %d) = %d, %v, %d; want %d, %v", h, was, is, got, some, err, want, wantSome)
			}
		}
	}
}

func TestD3DiffersWritten(t *testing.T) {
	h := []api.Row{{From: 5, Value: 1}, {From: 7, Seen: 2, Value: 1}, {From: 9, Seen: 2, Value: 2}, {From: 8, Seen: 4, Gone: true}, {From: 0, Seen: 6}, {From: api.MaxDay, Seen: 8, Value: 3}}
	for _, c := range []struct {
		was, is, want int
		some          bool
	}{
		{0, 0, 0, false}, {0, 1, 0, false}, {0, 2, 9, true}, {2, 0, 9, true}, {2, 3, 0, false}, {2, 4, 8, true}, {4, 2, 8, true},
		{4, 6, 0, true}, {6, 4, 0, true}, {6, 8, api.MaxDay, true}, {8, api.MaxDay, 0, false}, {0, api.MaxDay, 0, true},
	} {
		if got, some, err := Differs(h, c.was, c.is); got != c.want || some != c.some || err != api.OK {
			t.Errorf("Differs(%d, %d) = %d, %v, %d; want %d, %v", c.was, c.is, got, some, err, c.want, c.some)
		}
	}
}

func TestD4WhatARowChanges(t *testing.T) {
	d := draw(4)
	for range 500 {
		h := small(&d)
		r := api.Row{From: d.below(lastSmall), Seen: lastSeen(h) + d.below(3), Value: 5}
		more, err := Put(h, r)
		if err != api.OK {
			t.Fatalf("Put(%v, %v): %d", h, r, err)
		}
		for _, day := range smallDays() {
			for _, seen := range smallDays() {
				if now, was := at(t, more, day, seen), at(t, h, day, seen); (day < r.From || seen < r.Seen) && now != was {
					t.Fatalf("%v put into %v changes day %d as known at %d: %v, %v", r, h, day, seen, was, now)
				}
			}
		}
		if got := at(t, more, r.From, r.Seen); got != (told{5, true}) {
			t.Fatalf("%v put into %v: it is %v there", r, h, got)
		}
		if day, some, err := Differs(more, r.Seen, r.Seen+3); day != 0 || some || err != api.OK {
			t.Fatalf("nothing was seen behind %d in %v, and yet: %d, %v, %d", r.Seen, more, day, some, err)
		}
	}
}

func lastSeen(h []api.Row) int {
	if len(h) == 0 {
		return 0
	}
	return h[len(h)-1].Seen
}
