package calendar

import (
	"math"
	"slices"
	"testing"
	"time"

	"paycycle/api"
)

func isWorkdayByLibrary(day int, holidays []int) bool {
	w := goDate(day).Weekday()
	return w != time.Saturday && w != time.Sunday && !slices.Contains(holidays, day)
}

func stretch(from, count int) []int {
	var days []int
	for i := range count {
		days = append(days, from+i)
	}
	return days
}

var holidayLists = [][]int{
	nil, {}, {2}, {2, 3, 9}, {0, 1, 7, 8}, {0}, {api.MaxDay}, {73047, api.MaxDay}, {5, 40, 100, 73044},
	stretch(0, api.MaxHolidays), stretch(api.MaxDay-api.MaxHolidays+1, api.MaxHolidays), stretch(30, 50),
}

func TestB4AgainstTheLibrary(t *testing.T) {
	var days []int
	days = append(days, stretch(0, 100)...)
	days = append(days, stretch(api.MaxDay-99, 100)...)
	for _, holidays := range holidayLists {
		for _, day := range days {
			want, wantErr := searchWorkday(day, 1, holidays)
			if got, err := Next(day, holidays); got != want || err != wantErr {
				t.Errorf("Next(%d, %v) = %d, %d; want %d, %d", day, holidays, got, err, want, wantErr)
			}
			want, wantErr = searchWorkday(day, -1, holidays)
			if got, err := Last(day, holidays); got != want || err != wantErr {
				t.Errorf("Last(%d, %v) = %d, %d; want %d, %d", day, holidays, got, err, want, wantErr)
			}
		}
	}
}

func searchWorkday(day, step int, holidays []int) (int, api.Errno) {
	for ; day >= 0 && day <= api.MaxDay; day += step {
		if isWorkdayByLibrary(day, holidays) {
			return day, api.OK
		}
	}
	return 0, api.ErrNone
}

func TestB4Workdays(t *testing.T) {
	for _, holidays := range holidayLists {
		for from := 0; from < 20; from++ {
			count := 0
			for to := from; to < from+100; to++ {
				if isWorkdayByLibrary(to, holidays) {
					count++
				}
				if got, err := Workdays(from, to, holidays); got != count || err != api.OK {
					t.Errorf("Workdays(%d, %d, %v) = %d, %d; want %d", from, to, holidays, got, err, count)
				}
			}
		}
	}
}

func TestB4Written(t *testing.T) {
	for _, c := range []struct {
		from, to int
		holidays []int
		want     int
	}{
		{0, 0, nil, 0}, {0, 1, nil, 0}, {0, 2, nil, 1}, {2, 2, nil, 1}, {2, 2, []int{2}, 0}, {2, 8, nil, 5}, {2, 6, []int{6}, 4},
		{0, api.MaxDay, nil, 52177}, {0, api.MaxDay, []int{2, 7, api.MaxDay}, 52175},
		{5, 4, nil, 0}, {5, 3, []int{4}, 0}, {api.MaxDay, 0, nil, 0},
	} {
		if got, err := Workdays(c.from, c.to, c.holidays); got != c.want || err != api.OK {
			t.Errorf("Workdays(%d, %d, %v) = %d, %d; want %d", c.from, c.to, c.holidays, got, err, c.want)
		}
	}
	if got, err := Last(1, nil); got != 0 || err != api.ErrNone {
		t.Errorf("ahead of the first workday: %d, %d", got, err)
	}
	if got, err := Next(73047, []int{73047, api.MaxDay}); got != 0 || err != api.ErrNone {
		t.Errorf("behind the last workday: %d, %d", got, err)
	}
}

// wrongHolidays have an error whatever day is asked for.
var wrongHolidays = []struct {
	holidays []int
	want     api.Errno
}{
	{stretch(0, api.MaxHolidays+1), api.ErrMany},
	{make([]int, api.MaxHolidays+1), api.ErrMany},
	{slices.Repeat([]int{-1}, api.MaxHolidays+1), api.ErrMany},
	{[]int{-1}, api.ErrRange},
	{[]int{api.MaxDay + 1}, api.ErrRange},
	{[]int{math.MinInt, math.MaxInt}, api.ErrRange},
	{[]int{3, 2, -1}, api.ErrRange},
	{[]int{2, 2, api.MaxDay + 1}, api.ErrRange},
	{[]int{3, 2}, api.ErrState},
	{[]int{2, 2}, api.ErrState},
	{[]int{1, 2, 3, 3}, api.ErrState},
	{make([]int, api.MaxHolidays), api.ErrState},
}

func TestB4WrongHolidays(t *testing.T) {
	for _, c := range wrongHolidays {
		if got, err := Workdays(0, 9, c.holidays); got != 0 || err != c.want {
			t.Errorf("Workdays(0, 9, %v) = %d, %d; want 0, %d", c.holidays, got, err, c.want)
		}
		if got, err := Workdays(9, 0, c.holidays); got != 0 || err != c.want {
			t.Errorf("Workdays(9, 0, %v) = %d, %d; want 0, %d", c.holidays, got, err, c.want)
		}
		if got, err := Next(5, c.holidays); got != 0 || err != c.want {
			t.Errorf("Next(5, %v) = %d, %d; want 0, %d", c.holidays, got, err, c.want)
		}
		if got, err := Last(5, c.holidays); got != 0 || err != c.want {
			t.Errorf("Last(5, %v) = %d, %d; want 0, %d", c.holidays, got, err, c.want)
		}
	}
}

func TestB4WrongDays(t *testing.T) {
	tooMany := make([]int, api.MaxHolidays+1)
	for _, day := range noDays {
		for _, c := range []struct {
			holidays []int
			want     api.Errno
		}{{nil, api.ErrRange}, {[]int{2}, api.ErrRange}, {[]int{3, 2}, api.ErrRange}, {tooMany, api.ErrMany}} {
			for _, ask := range []func() (int, api.Errno){
				func() (int, api.Errno) { return Workdays(day, 5, c.holidays) },
				func() (int, api.Errno) { return Workdays(5, day, c.holidays) },
				func() (int, api.Errno) { return Workdays(day, day, c.holidays) },
				func() (int, api.Errno) { return Next(day, c.holidays) },
				func() (int, api.Errno) { return Last(day, c.holidays) },
			} {
				if got, err := ask(); got != 0 || err != c.want {
					t.Errorf("day %d with holidays %v: %d, %d; want 0, %d", day, c.holidays, got, err, c.want)
				}
			}
		}
	}
}

func TestB5WorkdaysOfBothParts(t *testing.T) {
	for _, holidays := range holidayLists {
		all, _ := Workdays(0, api.MaxDay, holidays)
		for _, middle := range []int{0, 1, 2, 3, 29, 30, 5000, 36584, 73043, 73044, api.MaxDay - 1} {
			here, _ := Workdays(0, middle, holidays)
			there, _ := Workdays(middle+1, api.MaxDay, holidays)
			if here+there != all {
				t.Errorf("up to %d and behind it, holidays %v: %d and %d; all are %d", middle, holidays, here, there, all)
			}
		}
	}
}

// P2 and P3: holidays are only read, spare room too, and a second time comes to the same.
func TestHolidaysAreLeftAlone(t *testing.T) {
	room := []int{2, 3, 9, 77, 5}
	want := slices.Clone(room)
	for range 2 {
		count, _ := Workdays(0, 9, room[:3])
		next, _ := Next(2, room[:3])
		last, _ := Last(10, room[:3])
		if count != 3 || next != 4 || last != 10 {
			t.Errorf("%d, %d, %d", count, next, last)
		}
	}
	if !slices.Equal(room, want) {
		t.Errorf("holidays and what is behind them became %v", room)
	}
}
