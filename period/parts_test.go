package period

import (
	"math"
	"math/big"
	"slices"
	"testing"

	"paycycle/api"
	"paycycle/money"
)

func in(day int, p api.Period) bool { return p.From <= day && day <= p.To }

func smallPeriods(from, to int) []api.Period {
	var periods []api.Period
	for a := from; a <= to; a++ {
		for b := from; b <= to; b++ {
			periods = append(periods, api.Period{From: a, To: b})
		}
	}
	return periods
}

func TestC3OverlapDayByDay(t *testing.T) {
	periods := smallPeriods(-3, 4)
	for _, a := range periods {
		for _, b := range periods {
			var both []int
			for day := -5; day <= 6; day++ {
				if in(day, a) && in(day, b) {
					both = append(both, day)
				}
			}
			var want api.Period
			if len(both) > 0 {
				want = api.Period{From: both[0], To: both[len(both)-1]}
			}
			if got, ok := Overlap(a, b); got != want || ok != (len(both) > 0) {
				t.Errorf("Overlap(%v, %v) = %v, %v; want %v", a, b, got, ok, want)
			}
		}
	}
}

func TestC3OverlapOfTheGreatest(t *testing.T) {
	all := api.Period{From: math.MinInt, To: math.MaxInt}
	none := api.Period{From: math.MaxInt, To: math.MinInt}
	one := api.Period{From: 5, To: 5}
	if p, ok := Overlap(all, one); p != one || !ok {
		t.Errorf("all and one: %v, %v", p, ok)
	}
	if p, ok := Overlap(all, all); p != all || !ok {
		t.Errorf("all and all: %v, %v", p, ok)
	}
	for _, p := range []api.Period{all, none, one} {
		if q, ok := Overlap(none, p); q != (api.Period{}) || ok {
			t.Errorf("none and %v: %v, %v", p, q, ok)
		}
		if q, ok := Overlap(p, none); q != (api.Period{}) || ok {
			t.Errorf("%v and none: %v, %v", p, q, ok)
		}
	}
}

// nearest rounds halves away from 0, by adding a half to what is not below 0, and cutting.
func nearest(amount, part, all int) int {
	n := new(big.Int).Mul(big.NewInt(int64(amount)), big.NewInt(int64(2*part)))
	sign := n.Sign()
	n.Abs(n).Add(n, big.NewInt(int64(all)))
	n.Quo(n, big.NewInt(int64(2*all)))
	return sign * int(n.Int64())
}

func checkProrate(t *testing.T, amount int, p, q api.Period, basis int, holidays []int) {
	t.Helper()
	all, part := 0, 0
	for day := p.From; day <= p.To; day++ {
		if basis == api.BasisDays || isWorkday(day, holidays) {
			all++
			if in(day, q) {
				part++
			}
		}
	}
	want, wantErr := 0, api.ErrNone
	if all > 0 {
		want, wantErr = nearest(amount, part, all), api.OK
	}
	if got, err := Prorate(amount, p, q, basis, holidays); got != want || err != wantErr {
		t.Errorf("Prorate(%d, %v, %v, %d, %v) = %d, %d; want %d, %d", amount, p, q, basis, holidays, got, err, want, wantErr)
	}
}

func TestC4ProrateDayByDay(t *testing.T) {
	for _, p := range smallPeriods(0, 9) {
		if p.To < p.From {
			continue
		}
		for _, q := range smallPeriods(-1, 10) {
			for _, basis := range []int{api.BasisDays, api.BasisWork} {
				checkProrate(t, 1001, p, q, basis, nil)
				checkProrate(t, -5, p, q, basis, []int{3, 5})
			}
		}
	}
}

func TestC4ProrateOfTheGreatest(t *testing.T) {
	all := api.Period{To: api.MaxDay}
	for _, amount := range []int{0, 1, -1, api.MaxMoney, -api.MaxMoney, api.MaxMoney - 1} {
		for _, q := range []api.Period{all, {From: math.MinInt, To: math.MaxInt}, {From: 1, To: api.MaxDay}, {From: api.MaxDay, To: math.MaxInt}, {From: math.MinInt, To: 2}, {From: 36524, To: 73047}, {From: math.MaxInt, To: math.MinInt}} {
			checkProrate(t, amount, all, q, api.BasisDays, days(0, api.MaxHolidays))
			checkProrate(t, amount, all, q, api.BasisWork, days(0, api.MaxHolidays))
		}
	}
}

func TestC4Written(t *testing.T) {
	week := api.Period{From: 2, To: 8} // from Monday to Sunday
	for _, c := range []struct {
		amount   int
		q        api.Period
		basis    int
		holidays []int
		want     int
	}{
		{700, api.Period{From: 2, To: 4}, api.BasisDays, nil, 300}, {500, api.Period{From: 2, To: 4}, api.BasisWork, nil, 300},
		{500, api.Period{From: 2, To: 4}, api.BasisWork, []int{3}, 250}, {700, api.Period{From: 2, To: 4}, api.BasisDays, []int{3}, 300},
		{500, api.Period{From: 7, To: 8}, api.BasisWork, nil, 0}, {700, api.Period{From: 7, To: 30}, api.BasisDays, nil, 200},
		{2, api.Period{From: 2, To: 2}, api.BasisWork, []int{3}, 1}, {-2, api.Period{From: 2, To: 2}, api.BasisWork, []int{3}, -1},
		{1, api.Period{From: 2, To: 3}, api.BasisWork, []int{6}, 1}, {-1, api.Period{From: 2, To: 3}, api.BasisWork, []int{6}, -1},
		{3, api.Period{From: 2, To: 3}, api.BasisWork, []int{6}, 2}, {-3, api.Period{From: 2, To: 3}, api.BasisWork, []int{6}, -2},
	} {
		if got, err := Prorate(c.amount, week, c.q, c.basis, c.holidays); got != c.want || err != api.OK {
			t.Errorf("Prorate(%d, %v, %v, %d, %v) = %d, %d; want %d", c.amount, week, c.q, c.basis, c.holidays, got, err, c.want)
		}
	}
}

func TestC4ErrorsInOrder(t *testing.T) {
	free := api.Period{From: 0, To: 1} // Saturday and Sunday
	many := make([]int, api.MaxHolidays+1)
	for _, c := range []struct {
		amount   int
		p        api.Period
		basis    int
		holidays []int
		want     api.Errno
	}{
		{api.MaxMoney + 1, api.Period{From: -1}, 0, many, api.ErrKind}, {1, free, 3, nil, api.ErrKind}, {1, free, -1, nil, api.ErrKind}, {1, free, math.MaxInt, nil, api.ErrKind},
		{api.MaxMoney + 1, free, 2, many, api.ErrRange}, {-api.MaxMoney - 1, free, 1, nil, api.ErrRange}, {math.MinInt, free, 1, nil, api.ErrRange}, {math.MaxInt, free, 2, nil, api.ErrRange},
		{1, api.Period{From: 2, To: 1}, 1, many, api.ErrRange}, {1, api.Period{From: -1, To: 1}, 1, many, api.ErrRange}, {1, api.Period{From: 1, To: api.MaxDay + 1}, 2, many, api.ErrRange},
		{1, api.Period{From: math.MinInt, To: math.MaxInt}, 2, nil, api.ErrRange}, {1, api.Period{From: math.MaxInt, To: math.MinInt}, 1, nil, api.ErrRange},
		{1, free, 1, many, api.ErrMany}, {1, free, 2, many, api.ErrMany}, {1, free, 1, []int{7, 6, -1}, api.ErrRange}, {1, free, 2, []int{api.MaxDay + 1}, api.ErrRange},
		{1, free, 1, []int{7, 6}, api.ErrState}, {1, free, 2, []int{7, 7}, api.ErrState}, {1, free, 2, nil, api.ErrNone},
		{1, api.Period{From: 2, To: 2}, 2, []int{2}, api.ErrNone}, {0, api.Period{From: 0, To: 3}, 2, []int{2, 3}, api.ErrNone},
	} {
		for _, q := range []api.Period{{}, {From: 5, To: 4}, {From: math.MinInt, To: math.MaxInt}} {
			if got, err := Prorate(c.amount, c.p, q, c.basis, c.holidays); got != 0 || err != c.want {
				t.Errorf("Prorate(%d, %v, %v, %d, %v) = %d, %d; want %d", c.amount, c.p, q, c.basis, c.holidays, got, err, c.want)
			}
		}
	}
}

// pieces counts the days of each piece one by one.
func pieces(p api.Period, cuts []int) []int {
	counts := make([]int, len(cuts)+1)
	for day := p.From; day <= p.To; day++ {
		piece := 0
		for _, cut := range cuts {
			if day >= cut {
				piece++
			}
		}
		counts[piece]++
	}
	return counts
}

func TestC5SplitDayByDay(t *testing.T) {
	for _, p := range []api.Period{{From: 0, To: 9}, {From: 5, To: 35}, {From: 7, To: 7}, {From: 0, To: api.MaxDay}, {From: 73040, To: api.MaxDay}} {
		for _, cuts := range [][]int{nil, {}, {1}, {9}, {1, 2, 3}, {6}, {6, 35}, {20, 21, 30}, {api.MaxDay}, {73041, 73047, api.MaxDay}, {100, 200, 70000}, days(1, 9), days(6, api.MaxShares-1)} {
			if len(cuts) > 0 && (cuts[0] <= p.From || cuts[len(cuts)-1] > p.To) {
				continue
			}
			for _, amount := range []int{0, 1, 7, 1000, api.MaxMoney} {
				want, _ := money.Share(amount, pieces(p, cuts))
				got, err := Split(amount, p, cuts)
				if !slices.Equal(got, want) || err != api.OK {
					t.Errorf("Split(%d, %v, %v) = %v, %d; want %v", amount, p, cuts, got, err, want)
				}
				if sum := total(got); sum != amount {
					t.Errorf("Split(%d, %v, %v) makes %d", amount, p, cuts, sum)
				}
			}
		}
	}
}

func total(numbers []int) int {
	sum := 0
	for _, n := range numbers {
		sum += n
	}
	return sum
}

func TestC5Written(t *testing.T) {
	for _, c := range []struct {
		amount int
		p      api.Period
		cuts   []int
		want   []int
	}{
		{1000, api.Period{From: 0, To: 9}, nil, []int{1000}}, {1000, api.Period{From: 0, To: 9}, []int{5}, []int{500, 500}},
		{1000, api.Period{From: 0, To: 9}, []int{1}, []int{100, 900}}, {1000, api.Period{From: 0, To: 9}, []int{9}, []int{900, 100}},
		{1000, api.Period{From: 0, To: 9}, []int{1, 3}, []int{100, 200, 700}}, {1, api.Period{From: 3, To: 5}, []int{4, 5}, []int{1, 0, 0}},
	} {
		if got, err := Split(c.amount, c.p, c.cuts); !slices.Equal(got, c.want) || err != api.OK {
			t.Errorf("Split(%d, %v, %v) = %v, %d; want %v", c.amount, c.p, c.cuts, got, err, c.want)
		}
	}
}

func TestC5ErrorsInOrder(t *testing.T) {
	p := api.Period{From: 5, To: 40}
	many := make([]int, api.MaxShares)
	for _, c := range []struct {
		amount int
		p      api.Period
		cuts   []int
		want   api.Errno
	}{
		{-1, api.Period{From: 5, To: 4}, many, api.ErrRange}, {1, api.Period{From: -1, To: 4}, many, api.ErrRange}, {1, api.Period{From: 5, To: api.MaxDay + 1}, many, api.ErrRange},
		{1, api.Period{From: math.MinInt, To: math.MaxInt}, nil, api.ErrRange}, {1, api.Period{From: math.MaxInt, To: math.MinInt}, nil, api.ErrRange},
		{-1, p, many, api.ErrMany}, {1, p, days(6, api.MaxShares), api.ErrMany}, {1, p, make([]int, 1000), api.ErrMany},
		{-1, p, []int{5}, api.ErrState}, {1, p, []int{4}, api.ErrState}, {1, p, []int{41}, api.ErrState}, {1, p, []int{7, 7}, api.ErrState}, {1, p, []int{8, 7}, api.ErrState}, {1, p, []int{6, 41}, api.ErrState},
		{1, p, []int{math.MinInt}, api.ErrState}, {1, p, []int{math.MaxInt}, api.ErrState}, {1, api.Period{From: 7, To: 7}, []int{7}, api.ErrState},
		{-1, p, []int{6}, api.ErrRange}, {api.MaxMoney + 1, p, nil, api.ErrRange}, {math.MinInt, p, nil, api.ErrRange}, {math.MaxInt, p, []int{40}, api.ErrRange},
	} {
		if got, err := Split(c.amount, c.p, c.cuts); len(got) != 0 || err != c.want {
			t.Errorf("Split(%d, %v, %v) = %v, %d; want %d", c.amount, c.p, c.cuts, got, err, c.want)
		}
	}
}

func TestP2InputsAreOnlyRead(t *testing.T) {
	room := []int{6, 7, 9, 11, 12, 13, 14}
	before := slices.Clone(room)
	cuts := room[:3]
	parts, _ := Split(1000, api.Period{From: 5, To: 40}, cuts)
	again, _ := Split(1000, api.Period{From: 5, To: 40}, cuts)
	Prorate(1000, api.Period{From: 5, To: 40}, api.Period{From: 5, To: 20}, api.BasisWork, cuts)
	Paid(api.Schedule{Kind: api.ScheduleWeek}, 1, cuts)
	for i := range parts {
		parts[i] = -1
	}
	if !slices.Equal(room, before) {
		t.Errorf("what was handed in is %v now", room)
	}
	if third, _ := Split(1000, api.Period{From: 5, To: 40}, cuts); !slices.Equal(third, again) || slices.Equal(again, parts) {
		t.Errorf("a change of an answer is seen: %v, %v", again, third)
	}
}
