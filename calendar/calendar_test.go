package calendar

import (
	"math"
	"testing"
	"time"

	"paycycle/api"
)

var noDays = []int{-1, api.MaxDay + 1, math.MinInt, math.MaxInt}

func date(year, month, day int) api.Date { return api.Date{Year: year, Month: month, Day: day} }

// goDate is a second way to a day's date: that of Go's library.
func goDate(day int) time.Time { return time.Date(2000, 1, 1+day, 0, 0, 0, 0, time.UTC) }

func TestB1EveryDay(t *testing.T) {
	for day := 0; day <= api.MaxDay; day++ {
		g := goDate(day)
		want := date(g.Year(), int(g.Month()), g.Day())
		if got, err := Civil(day); got != want || err != api.OK {
			t.Fatalf("Civil(%d) = %v, %d; want %v", day, got, err, want)
		}
		if got, err := Day(want); got != day || err != api.OK {
			t.Fatalf("Day(%v) = %d, %d; want %d", want, got, err, day)
		}
		if got, err := Weekday(day); got != (int(g.Weekday())+6)%7 || err != api.OK {
			t.Fatalf("Weekday(%d) = %d, %d; it is a %v", day, got, err, g.Weekday())
		}
	}
}

func TestB1Written(t *testing.T) {
	for day, want := range map[int]api.Date{
		0: date(2000, 1, 1), 59: date(2000, 2, 29), 60: date(2000, 3, 1), 365: date(2000, 12, 31), 366: date(2001, 1, 1),
		36583: date(2100, 2, 28), 36584: date(2100, 3, 1), api.MaxDay: date(2199, 12, 31),
	} {
		if got, err := Civil(day); got != want || err != api.OK {
			t.Errorf("Civil(%d) = %v, %d; want %v", day, got, err, want)
		}
	}
	for day, want := range map[int]int{0: 5, 1: 6, 2: 0, 6: 4, 7: 5, 8: 6, 9: 0} {
		if got, err := Weekday(day); got != want || err != api.OK {
			t.Errorf("Weekday(%d) = %d, %d; want %d", day, got, err, want)
		}
	}
}

func TestB1NoDays(t *testing.T) {
	for _, day := range noDays {
		if got, err := Civil(day); got != (api.Date{}) || err != api.ErrRange {
			t.Errorf("Civil(%d) = %v, %d", day, got, err)
		}
		if got, err := Weekday(day); got != 0 || err != api.ErrRange {
			t.Errorf("Weekday(%d) = %d, %d", day, got, err)
		}
	}
}

func TestB1NoDates(t *testing.T) {
	for _, d := range []api.Date{
		{}, date(1999, 12, 31), date(2200, 1, 1), date(2000, 0, 1), date(2000, 13, 1), date(2000, 1, 0), date(2000, 1, 32),
		date(2000, 2, 30), date(2001, 2, 29), date(2100, 2, 29), date(2000, 4, 31), date(2000, 6, 31), date(2000, 9, 31), date(2000, 11, 31),
		date(2000, -1, 1), date(2000, 1, -1), date(-2000, 1, 1), date(2199, 12, 32),
		date(math.MaxInt, 1, 1), date(math.MinInt, 1, 1), date(2000, math.MaxInt, 1), date(2000, math.MinInt, 1), date(2000, 1, math.MaxInt), date(2000, 1, math.MinInt),
	} {
		if got, err := Day(d); got != 0 || err != api.ErrRange {
			t.Errorf("Day(%v) = %d, %d", d, got, err)
		}
	}
}

func TestB3AgainstTheLibrary(t *testing.T) {
	steps := []int{0, 1, -1, 2, 11, 12, -12, 13, -13, 48, 1199, 1200, -1200, 2399, -2399, 2400, -2400}
	for day := 0; day <= api.MaxDay; day += 13 {
		for _, n := range steps {
			want, wantErr := monthsByLibrary(day, n)
			if got, err := Months(day, n); got != want || err != wantErr {
				t.Fatalf("Months(%d, %d) = %d, %d; want %d, %d", day, n, got, err, want, wantErr)
			}
		}
	}
}

func monthsByLibrary(day, n int) (int, api.Errno) {
	g := goDate(day)
	first := time.Date(g.Year(), g.Month()+time.Month(n), 1, 0, 0, 0, 0, time.UTC)
	if first.Year() < 2000 || first.Year() > 2199 {
		return 0, api.ErrRange
	}
	last := first.AddDate(0, 1, -1).Day()
	there := first.AddDate(0, 0, min(g.Day(), last)-1)
	return int(there.Sub(goDate(0)).Hours()) / 24, api.OK
}

func TestB3Written(t *testing.T) {
	for _, c := range []struct {
		from api.Date
		n    int
		want api.Date
	}{
		{date(2000, 1, 31), 1, date(2000, 2, 29)},
		{date(2001, 1, 31), 1, date(2001, 2, 28)},
		{date(2000, 1, 31), 3, date(2000, 4, 30)},
		{date(2000, 3, 31), -1, date(2000, 2, 29)},
		{date(2000, 2, 29), 12, date(2001, 2, 28)},
		{date(2000, 2, 29), 48, date(2004, 2, 29)},
		{date(2000, 2, 29), 1200, date(2100, 2, 28)},
		{date(2000, 12, 5), 1, date(2001, 1, 5)},
		{date(2001, 1, 5), -1, date(2000, 12, 5)},
		{date(2000, 1, 31), 2399, date(2199, 12, 31)},
		{date(2199, 12, 31), -2399, date(2000, 1, 31)},
		{date(2000, 1, 15), 0, date(2000, 1, 15)},
	} {
		from, _ := Day(c.from)
		want, _ := Day(c.want)
		if got, err := Months(from, c.n); got != want || err != api.OK {
			t.Errorf("%d months behind %v: %d, %d; want %d", c.n, c.from, got, err, want)
		}
	}
}

func TestB3Errors(t *testing.T) {
	for _, c := range [][2]int{
		{-1, 0}, {-1, 1}, {api.MaxDay + 1, 0}, {api.MaxDay + 1, -1}, {math.MinInt, 1}, {math.MaxInt, -1},
		{40000, 2401}, {40000, -2401}, {40000, math.MaxInt}, {40000, math.MinInt},
		{0, -1}, {0, 2400}, {api.MaxDay, 1}, {api.MaxDay, -2400}, {30, -1}, {73018, 1},
	} {
		if got, err := Months(c[0], c[1]); got != 0 || err != api.ErrRange {
			t.Errorf("Months(%d, %d) = %d, %d", c[0], c[1], got, err)
		}
	}
}

func TestB5DaysAndDatesGoTogether(t *testing.T) {
	next := 0
	for year := 2000; year <= 2199; year++ {
		for month := 0; month <= 13; month++ {
			for dayOfMonth := 0; dayOfMonth <= 32; dayOfMonth++ {
				d := date(year, month, dayOfMonth)
				day, err := Day(d)
				if err != api.OK {
					continue
				}
				if back, _ := Civil(day); day != next || back != d {
					t.Fatalf("Day(%v) = %d; want %d; its date is %v", d, day, next, back)
				}
				next++
			}
		}
	}
	if next != api.MaxDay+1 {
		t.Errorf("there are %d dates", next)
	}
}
