package period

import (
	"math"
	"slices"
	"testing"
	"time"

	"paycycle/api"
)

func goDate(day int) time.Time { return time.Date(2000, 1, 1+day, 0, 0, 0, 0, time.UTC) }

// walk finds periods in another way than the program: it goes through the days, and asks of each whether a period begins there.
func walk(s api.Schedule) []api.Period {
	begins := func(day int) bool {
		switch s.Kind {
		case api.ScheduleWeek:
			return (day-s.Anchor)%7 == 0
		case api.ScheduleTwo:
			return (day-s.Anchor)%14 == 0
		case api.ScheduleHalf:
			return goDate(day).Day() == 1 || goDate(day).Day() == 16
		}
		return goDate(day).Day() == 1
	}
	first := s.Anchor
	for !begins(first) {
		first--
	}
	var periods []api.Period
	from := first
	for day := first + 1; day <= api.MaxDay+1 && len(periods) < api.MaxPeriods; day++ {
		if begins(day) {
			periods = append(periods, api.Period{From: from, To: day - 1})
			from = day
		}
	}
	return periods
}

var schedules = []api.Schedule{
	{Kind: api.ScheduleWeek}, {Kind: api.ScheduleWeek, Anchor: 3, Lag: 4}, {Kind: api.ScheduleWeek, Anchor: 40000}, {Kind: api.ScheduleWeek, Anchor: 73042}, {Kind: api.ScheduleWeek, Anchor: 73043}, {Kind: api.ScheduleWeek, Anchor: api.MaxDay},
	{Kind: api.ScheduleTwo}, {Kind: api.ScheduleTwo, Anchor: 13}, {Kind: api.ScheduleTwo, Anchor: 3060}, {Kind: api.ScheduleTwo, Anchor: 73035, Lag: 1}, {Kind: api.ScheduleTwo, Anchor: 73036},
	{Kind: api.ScheduleHalf}, {Kind: api.ScheduleHalf, Anchor: 14}, {Kind: api.ScheduleHalf, Anchor: 15, Lag: api.MaxLag}, {Kind: api.ScheduleHalf, Anchor: 30}, {Kind: api.ScheduleHalf, Anchor: 59}, {Kind: api.ScheduleHalf, Anchor: 73032}, {Kind: api.ScheduleHalf, Anchor: 73033}, {Kind: api.ScheduleHalf, Anchor: api.MaxDay},
	{Kind: api.ScheduleMonth}, {Kind: api.ScheduleMonth, Anchor: 30}, {Kind: api.ScheduleMonth, Anchor: 31, Lag: 2}, {Kind: api.ScheduleMonth, Anchor: 59}, {Kind: api.ScheduleMonth, Anchor: 36600}, {Kind: api.ScheduleMonth, Anchor: api.MaxDay},
}

func TestC1AtAgainstTheLibrary(t *testing.T) {
	for _, s := range schedules {
		periods := walk(s)
		for k := range api.MaxPeriods + 2 {
			var want api.Period
			wantErr := api.ErrRange
			if k < len(periods) {
				want, wantErr = periods[k], api.OK
			}
			if got, err := At(s, k); got != want || err != wantErr {
				t.Fatalf("At(%v, %d) = %v, %d; want %v, %d", s, k, got, err, want, wantErr)
			}
		}
	}
}

func TestC1C6EachDayIsInJustOne(t *testing.T) {
	for _, s := range schedules {
		numbers := map[int]int{}
		for k, p := range walk(s) {
			for day := p.From; day <= p.To; day++ {
				numbers[day] = k
			}
		}
		for day := -2; day <= api.MaxDay+2; day++ {
			want, some := numbers[day]
			got, err := Which(s, day)
			if some && (got != want || err != api.OK) || !some && (got != 0 || err != api.ErrRange) {
				t.Fatalf("Which(%v, %d) = %d, %d; want %d, %v", s, day, got, err, want, some)
			}
		}
	}
}

func TestC1Written(t *testing.T) {
	for _, c := range []struct {
		s    api.Schedule
		k    int
		want api.Period
	}{
		{api.Schedule{Kind: api.ScheduleMonth, Anchor: 5}, 1, api.Period{From: 31, To: 59}},
		{api.Schedule{Kind: api.ScheduleMonth}, 2399, api.Period{From: 73018, To: api.MaxDay}},
		{api.Schedule{Kind: api.ScheduleHalf, Anchor: 20}, 0, api.Period{From: 15, To: 30}},
		{api.Schedule{Kind: api.ScheduleHalf, Anchor: 20}, 2, api.Period{From: 46, To: 59}},
		{api.Schedule{Kind: api.ScheduleHalf}, 4799, api.Period{From: 73033, To: api.MaxDay}},
		{api.Schedule{Kind: api.ScheduleWeek, Anchor: 2}, api.MaxPeriods - 1, api.Period{From: 34995, To: 35001}},
		{api.Schedule{Kind: api.ScheduleTwo, Anchor: 73035}, 0, api.Period{From: 73035, To: api.MaxDay}},
	} {
		if got, err := At(c.s, c.k); got != c.want || err != api.OK {
			t.Errorf("At(%v, %d) = %v, %d; want %v", c.s, c.k, got, err, c.want)
		}
	}
}

func TestC1WrongNumbersAndDays(t *testing.T) {
	for _, s := range schedules {
		for _, n := range []int{math.MinInt, math.MinInt + 1, -1 << 40, -1, api.MaxDay + 1, 1 << 40, math.MaxInt - 1, math.MaxInt} {
			if p, err := At(s, n); p != (api.Period{}) || err != api.ErrRange {
				t.Errorf("At(%v, %d) = %v, %d", s, n, p, err)
			}
			if k, err := Which(s, n); k != 0 || err != api.ErrRange {
				t.Errorf("Which(%v, %d) = %d, %d", s, n, k, err)
			}
		}
	}
}

func TestC1WrongSchedules(t *testing.T) {
	for _, c := range []struct {
		s    api.Schedule
		want api.Errno
	}{
		{api.Schedule{}, api.ErrKind}, {api.Schedule{Kind: 5}, api.ErrKind}, {api.Schedule{Kind: -1}, api.ErrKind},
		{api.Schedule{Kind: math.MinInt}, api.ErrKind}, {api.Schedule{Kind: math.MaxInt}, api.ErrKind},
		{api.Schedule{Kind: 5, Anchor: -1, Lag: 61}, api.ErrKind},
		{api.Schedule{Kind: 1, Anchor: -1}, api.ErrRange}, {api.Schedule{Kind: 4, Anchor: api.MaxDay + 1}, api.ErrRange},
		{api.Schedule{Kind: 3, Anchor: math.MinInt}, api.ErrRange}, {api.Schedule{Kind: 2, Anchor: math.MaxInt}, api.ErrRange},
		{api.Schedule{Kind: 1, Lag: -1}, api.ErrRange}, {api.Schedule{Kind: 4, Lag: api.MaxLag + 1}, api.ErrRange},
		{api.Schedule{Kind: 3, Lag: math.MinInt}, api.ErrRange}, {api.Schedule{Kind: 2, Lag: math.MaxInt}, api.ErrRange},
		{api.Schedule{Kind: 1}, api.OK}, {api.Schedule{Kind: 4, Anchor: api.MaxDay, Lag: api.MaxLag}, api.OK},
	} {
		if got := Check(c.s); got != c.want {
			t.Errorf("Check(%v) = %d; want %d", c.s, got, c.want)
		}
		if c.want == api.OK {
			continue
		}
		p, err1 := At(c.s, -1)
		k, err2 := Which(c.s, -1)
		day, err3 := Paid(c.s, -1, make([]int, api.MaxHolidays+1))
		if err1 != c.want || err2 != c.want || err3 != c.want || p != (api.Period{}) || k != 0 || day != 0 {
			t.Errorf("%v: %d %d %d, %v %d %d; want %d", c.s, err1, err2, err3, p, k, day, c.want)
		}
	}
}

func isWorkday(day int, holidays []int) bool {
	w := goDate(day).Weekday()
	return w != time.Saturday && w != time.Sunday && !slices.Contains(holidays, day)
}

func days(from, count int) []int {
	var list []int
	for i := range count {
		list = append(list, from+i)
	}
	return list
}

func TestC2PaidAgainstTheLibrary(t *testing.T) {
	for _, s := range schedules {
		for _, lag := range []int{0, 1, 5, api.MaxLag} {
			s.Lag = lag
			periods := walk(s)
			for _, holidays := range [][]int{nil, {}, {31, 34, 59}, days(0, api.MaxHolidays), days(api.MaxDay-59, api.MaxHolidays)} {
				for k, p := range periods {
					if k > 30 && k < len(periods)-10 {
						continue
					}
					want, wantErr := lastWorkday(p.To+lag, holidays)
					if got, err := Paid(s, k, holidays); got != want || err != wantErr {
						t.Fatalf("Paid(%v, %d, %v) = %d, %d; want %d, %d", s, k, holidays, got, err, want, wantErr)
					}
				}
			}
		}
	}
}

func lastWorkday(day int, holidays []int) (int, api.Errno) {
	if day > api.MaxDay {
		return 0, api.ErrRange
	}
	for ; day >= 0; day-- {
		if isWorkday(day, holidays) {
			return day, api.OK
		}
	}
	return 0, api.ErrNone
}

func TestC2ErrorsInOrder(t *testing.T) {
	month := api.Schedule{Kind: api.ScheduleMonth}
	late := api.Schedule{Kind: api.ScheduleMonth, Anchor: api.MaxDay, Lag: 1}
	many := make([]int, api.MaxHolidays+1)
	for _, c := range []struct {
		s        api.Schedule
		k        int
		holidays []int
		want     api.Errno
	}{
		{month, -1, many, api.ErrRange}, {month, 2400, many, api.ErrRange}, {month, api.MaxPeriods, many, api.ErrRange}, {late, 0, many, api.ErrRange},
		{month, 0, many, api.ErrMany}, {month, 0, []int{5, -1, 3}, api.ErrRange}, {month, 0, []int{api.MaxDay + 1}, api.ErrRange},
		{month, 0, []int{5, 5}, api.ErrState}, {month, 0, []int{5, 4}, api.ErrState}, {month, 0, days(0, 31), api.ErrNone},
	} {
		if day, err := Paid(c.s, c.k, c.holidays); day != 0 || err != c.want {
			t.Errorf("Paid(%v, %d, %v) = %d, %d; want %d", c.s, c.k, c.holidays, day, err, c.want)
		}
	}
}
