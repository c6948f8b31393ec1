package hours

import (
	"math"
	"slices"
	"testing"

	"paycycle/api"
)

// draw makes small numbers, the same each time.
type draw uint64

func (d *draw) below(n int) int {
	*d = *d*6364136223846793005 + 1442695040888963407
	return int(uint64(*d) >> 33 % uint64(n))
}

// rising has so many times, one behind the other, from first on.
func rising(first, n int) []int {
	times := make([]int, n)
	for i := range times {
		times[i] = first + i
	}
	return times
}

// drawTimes of a day: an even number of them, which rise; the ends of the day are often among them.
func drawTimes(d *draw) []int {
	var times []int
	if d.below(3) == 0 {
		times = append(times, 0)
	}
	if d.below(3) == 0 {
		times = append(times, 1440)
	}
	reach := 1 + d.below(1440)
	for range d.below(39) {
		times = append(times, d.below(reach+1))
	}
	slices.Sort(times)
	times = slices.Compact(times)
	return times[:len(times)/2*2]
}

// there tells of each minute whether somebody came ahead of its end, and has not gone since.
func there(times []int) [1440]bool {
	var day [1440]bool
	for minute := range day {
		for _, turn := range times {
			if turn <= minute {
				day[minute] = !day[minute]
			}
		}
	}
	return day
}

// between counts the minutes from one time to another one at which somebody was there.
func between(day [1440]bool, from, to int) int {
	n := 0
	for _, is := range day[from:to] {
		if is {
			n++
		}
	}
	return n
}

// pairsAre asks Pairs, and with an error Worked and Within too, which tell the same.
func pairsAre(t *testing.T, times []int, want []api.Period, wantErr api.Errno) {
	t.Helper()
	if got, err := Pairs(times); !slices.Equal(got, want) || err != wantErr {
		t.Errorf("Pairs(%.200v) = %v, %d; want %v, %d", times, got, err, want, wantErr)
	}
	if wantErr == api.OK {
		return
	}
	workedIs(t, times, 15, api.RoundHalfUp, 0, wantErr)
	withinIs(t, times, 0, 1440, 0, wantErr)
	withinIs(t, times, 700, 700, 0, wantErr)
}

func workedIs(t *testing.T, times []int, step, way, want int, wantErr api.Errno) {
	t.Helper()
	if got, err := Worked(times, step, way); got != want || err != wantErr {
		t.Errorf("Worked(%.200v, %d, %d) = %d, %d; want %d, %d", times, step, way, got, err, want, wantErr)
	}
}

func withinIs(t *testing.T, times []int, from, to, want int, wantErr api.Errno) {
	t.Helper()
	if got, err := Within(times, from, to); got != want || err != wantErr {
		t.Errorf("Within(%.200v, %d, %d) = %d, %d; want %d, %d", times, from, to, got, err, want, wantErr)
	}
}

func TestK1Written(t *testing.T) {
	pairsAre(t, nil, nil, api.OK)
	pairsAre(t, []int{}, nil, api.OK)
	pairsAre(t, []int{0, 1440}, []api.Period{{From: 0, To: 1440}}, api.OK)
	pairsAre(t, []int{0, 1}, []api.Period{{From: 0, To: 1}}, api.OK)
	pairsAre(t, []int{1439, 1440}, []api.Period{{From: 1439, To: 1440}}, api.OK)
	pairsAre(t, []int{480, 720, 721, 1020}, []api.Period{{From: 480, To: 720}, {From: 721, To: 1020}}, api.OK)
	pairsAre(t, []int{1, 2, 3, 4, 5, 6}, []api.Period{{From: 1, To: 2}, {From: 3, To: 4}, {From: 5, To: 6}}, api.OK)
}

func TestK1PairsHaveAllTimes(t *testing.T) {
	d := draw(3)
	for range 3000 {
		times := drawTimes(&d)
		pairs, err := Pairs(times)
		var back []int
		for _, p := range pairs {
			back = append(back, p.From, p.To)
		}
		if err != api.OK || !slices.Equal(back, times) {
			t.Fatalf("Pairs(%v) = %v, %d", times, pairs, err)
		}
	}
}

func TestK1Many(t *testing.T) {
	if pairs, err := Pairs(rising(1401, 40)); len(pairs) != 20 || err != api.OK {
		t.Errorf("of 40 times: %v, %d", pairs, err)
	}
	pairsAre(t, rising(0, 41), nil, api.ErrMany)
	pairsAre(t, rising(0, 42), nil, api.ErrMany)
	pairsAre(t, rising(-1, 42), nil, api.ErrMany)
	pairsAre(t, make([]int, 42), nil, api.ErrMany)
	pairsAre(t, rising(-5, 1<<16), nil, api.ErrMany)
}

func TestK1Range(t *testing.T) {
	for _, none := range []int{math.MinInt, -1440, -1, 1441, 2880, math.MaxInt} {
		for _, times := range [][]int{{none}, {none, 5}, {5, none}, {5, 5, none}, {7, 5, none, 6}, {none, 1, 2, 3}, {1, 2, 3, none}, {1, none, 3}, {none, none}} {
			pairsAre(t, times, nil, api.ErrRange)
		}
	}
	pairsAre(t, rising(1402, 40), nil, api.ErrRange)
	pairsAre(t, rising(-1, 40), nil, api.ErrRange)
}

func TestK1State(t *testing.T) {
	for _, times := range [][]int{
		{5, 5}, {7, 5}, {0, 0}, {1440, 1440}, {1440, 0}, {5, 5, 5}, {5, 6, 6}, {5, 6, 6, 7}, {5, 6, 4, 7}, {5, 6, 7, 7}, {5, 6, 7, 6}, {5, 4, 6}, {1, 2, 3, 4, 5, 5}, {2, 1, 3, 4, 5, 6},
		make([]int, 40), make([]int, 39),
	} {
		pairsAre(t, times, nil, api.ErrState)
	}
	for at := 1; at < 40; at++ {
		times := rising(100, 40)
		times[at] = times[at-1]
		pairsAre(t, times, nil, api.ErrState)
	}
}

func TestK1Form(t *testing.T) {
	for n := 1; n < 40; n += 2 {
		pairsAre(t, rising(0, n), nil, api.ErrForm)
		pairsAre(t, rising(1441-n, n), nil, api.ErrForm)
	}
	pairsAre(t, []int{0}, nil, api.ErrForm)
	pairsAre(t, []int{1440}, nil, api.ErrForm)
}

// toSteps looks, without dividing, for the multiple of step that a way leads to from minutes.
func toSteps(minutes, step, way int) int {
	below, even := 0, true
	for below+step <= minutes {
		below += step
		even = !even
	}
	if below == minutes {
		return below
	}
	above := below + step
	switch order := (minutes - below) - (above - minutes); {
	case way == api.RoundDown, way == api.RoundFloor:
		return below
	case way == api.RoundUp, way == api.RoundCeiling:
		return above
	case order < 0:
		return below
	case order > 0, way == api.RoundHalfUp:
		return above
	case even:
		return below
	}
	return above
}

func TestK2Written(t *testing.T) {
	workedIs(t, []int{60, 127}, 15, api.RoundHalfUp, 60, api.OK)
	workedIs(t, nil, 60, api.RoundUp, 0, api.OK)
	workedIs(t, []int{0, 1440}, 7, api.RoundUp, 1442, api.OK)
	workedIs(t, []int{0, 1440}, 59, api.RoundCeiling, 1475, api.OK)
	workedIs(t, []int{0, 1, 2, 3, 4, 5}, 2, api.RoundHalfUp, 4, api.OK)
	workedIs(t, []int{0, 1, 2, 3, 4, 5}, 2, api.RoundHalfEven, 4, api.OK)
	workedIs(t, []int{0, 5}, 2, api.RoundHalfUp, 6, api.OK)
	workedIs(t, []int{0, 5}, 2, api.RoundHalfEven, 4, api.OK)
	workedIs(t, []int{0, 29}, 60, api.RoundHalfUp, 0, api.OK)
	workedIs(t, []int{0, 30}, 60, api.RoundHalfUp, 60, api.OK)
	workedIs(t, []int{0, 30}, 60, api.RoundHalfEven, 0, api.OK)
	workedIs(t, []int{0, 1}, 60, api.RoundUp, 60, api.OK)
	workedIs(t, []int{0, 59}, 60, api.RoundFloor, 0, api.OK)
}

// TestK2EachStepAndWay: minutes are first put together, then rounded.
func TestK2EachStepAndWay(t *testing.T) {
	d := draw(5)
	for step := 1; step <= 60; step++ {
		for way := api.RoundDown; way <= api.RoundHalfEven; way++ {
			for range 20 {
				times := drawTimes(&d)
				workedIs(t, times, step, way, toSteps(between(there(times), 0, 1440), step, way), api.OK)
			}
		}
	}
	for minutes := 1; minutes <= 1440; minutes++ {
		for way := api.RoundDown; way <= api.RoundHalfEven; way++ {
			workedIs(t, []int{0, minutes}, 12, way, toSteps(minutes, 12, way), api.OK)
			workedIs(t, []int{1440 - minutes, 1440}, 60, way, toSteps(minutes, 60, way), api.OK)
		}
	}
}

func TestK2WithinMinuteByMinute(t *testing.T) {
	d := draw(7)
	for range 3000 {
		times := drawTimes(&d)
		day := there(times)
		edges := append([]int{0, 1, 719, 1439, 1440, d.below(1441), d.below(1441)}, times...)
		for range 20 {
			from, to := edges[d.below(len(edges))], edges[d.below(len(edges))]
			if from > to {
				withinIs(t, times, from, to, 0, api.ErrRange)
				from, to = to, from
			}
			withinIs(t, times, from, to, between(day, from, to), api.OK)
		}
	}
}

func TestK2WithinWritten(t *testing.T) {
	times := []int{100, 200, 300, 400}
	for _, c := range [][3]int{
		{0, 1440, 200}, {100, 400, 200}, {101, 399, 198}, {150, 350, 100}, {200, 300, 0}, {199, 301, 2}, {0, 100, 0}, {0, 101, 1}, {400, 1440, 0}, {399, 1440, 1},
		{120, 130, 10}, {100, 100, 0}, {150, 150, 0}, {0, 0, 0}, {1440, 1440, 0}, {250, 260, 0}, {100, 300, 100},
	} {
		withinIs(t, times, c[0], c[1], c[2], api.OK)
	}
	withinIs(t, nil, 0, 1440, 0, api.OK)
	withinIs(t, []int{0, 1440}, 0, 1440, 1440, api.OK)
}

// wrongTimes are lists of which Pairs tells each of its errors.
func wrongTimes() [][]int {
	return [][]int{make([]int, 41), {-1, 5}, {5, 5}, {5}, {1441}}
}

func TestK2WorkedErrors(t *testing.T) {
	lists := append(wrongTimes(), nil, []int{60, 127})
	for _, times := range lists {
		for _, way := range []int{math.MinInt, -1, 0, 7, 8, math.MaxInt} {
			for _, step := range []int{math.MinInt, 0, 1, 15, 60, 61, math.MaxInt} {
				workedIs(t, times, step, way, 0, api.ErrKind)
			}
		}
		for way := api.RoundDown; way <= api.RoundHalfEven; way++ {
			for _, step := range []int{math.MinInt, -15, -1, 0, 61, 120, api.MaxRate + 1, math.MaxInt} {
				workedIs(t, times, step, way, 0, api.ErrRange)
			}
		}
	}
	for _, times := range wrongTimes() {
		_, want := Pairs(times)
		for way := api.RoundDown; way <= api.RoundHalfEven; way++ {
			workedIs(t, times, 1, way, 0, want)
			workedIs(t, times, 60, way, 0, want)
		}
	}
}

func TestK2WithinErrors(t *testing.T) {
	lists := append(wrongTimes(), nil, []int{60, 127})
	for _, times := range lists {
		for _, none := range []int{math.MinInt, -1440, -1, 1441, math.MaxInt} {
			for _, other := range []int{none, 0, 720, 1440} {
				withinIs(t, times, none, other, 0, api.ErrRange)
				withinIs(t, times, other, none, 0, api.ErrRange)
			}
		}
		withinIs(t, times, 1, 0, 0, api.ErrRange)
		withinIs(t, times, 1440, 1439, 0, api.ErrRange)
		withinIs(t, times, 1440, 0, 0, api.ErrRange)
	}
	for _, times := range wrongTimes() {
		_, want := Pairs(times)
		withinIs(t, times, 0, 0, 0, want)
		withinIs(t, times, 1440, 1440, 0, want)
		withinIs(t, times, 5, 6, 0, want)
	}
}

func splitIs(t *testing.T, worked []int, o api.Overtime, usual, over []int, wantErr api.Errno) {
	t.Helper()
	a, b, err := Split(worked, o)
	if !slices.Equal(a, usual) || !slices.Equal(b, over) || err != wantErr {
		t.Errorf("Split(%.200v, %v) = %v, %v, %d; want %v, %v, %d", worked, o, a, b, err, usual, over, wantErr)
	}
}

// splitByMinutes goes through a week minute by minute: one is overtime if as many as there may be, of its day or of the week, were none already.
func splitByMinutes(worked []int, o api.Overtime) ([]int, []int) {
	usual, over := make([]int, len(worked)), make([]int, len(worked))
	week := 0
	for day, minutes := range worked {
		for range minutes {
			if usual[day] == o.Daily || week == o.Weekly {
				over[day]++
				continue
			}
			usual[day]++
			week++
		}
	}
	return usual, over
}

func TestK3Written(t *testing.T) {
	splitIs(t, nil, api.Overtime{}, nil, nil, api.OK)
	splitIs(t, []int{}, api.Overtime{Daily: 480, Weekly: 2400}, nil, nil, api.OK)
	splitIs(t, []int{600, 0, 480}, api.Overtime{Daily: 480, Weekly: 2400}, []int{480, 0, 480}, []int{120, 0, 0}, api.OK)
	splitIs(t, []int{600, 300, 480}, api.Overtime{Daily: 480, Weekly: 900}, []int{480, 300, 120}, []int{120, 0, 360}, api.OK)
	splitIs(t, []int{1, 1440}, api.Overtime{Daily: 0, Weekly: 10080}, []int{0, 0}, []int{1, 1440}, api.OK)
	splitIs(t, []int{1, 1440}, api.Overtime{Daily: 1440, Weekly: 0}, []int{0, 0}, []int{1, 1440}, api.OK)
	week := []int{1440, 1440, 1440, 1440, 1440, 1440, 1440}
	splitIs(t, week, api.Overtime{Daily: 1440, Weekly: 10080}, week, make([]int, 7), api.OK)
	splitIs(t, week, api.Overtime{Daily: 1440, Weekly: 10079}, []int{1440, 1440, 1440, 1440, 1440, 1440, 1439}, []int{0, 0, 0, 0, 0, 0, 1}, api.OK)
}

// drawWeek has up to 7 days, and a rule that cuts somewhere in them.
func drawWeek(d *draw) ([]int, api.Overtime) {
	reach := []int{2, 20, 600, 1441}[d.below(4)]
	worked := make([]int, d.below(8))
	for i := range worked {
		worked[i] = []int{0, d.below(reach), d.below(reach), reach - 1}[d.below(4)]
	}
	o := api.Overtime{Daily: d.below(reach), Weekly: d.below(7*(reach-1) + 1)}
	if d.below(4) == 0 {
		o.Daily = 1440
	}
	if d.below(4) == 0 {
		o.Weekly = 10080
	}
	return worked, o
}

func TestK3MinuteByMinute(t *testing.T) {
	d := draw(11)
	for range 5000 {
		worked, o := drawWeek(&d)
		usual, over := splitByMinutes(worked, o)
		splitIs(t, worked, o, usual, over, api.OK)
	}
}

func TestK3Errors(t *testing.T) {
	good := api.Overtime{Daily: 480, Weekly: 2400}
	far := []int{math.MinInt, -10080, -1440, -1, 1441, 10081, math.MaxInt}
	for _, n := range far {
		splitIs(t, []int{n}, good, nil, nil, api.ErrRange)
		splitIs(t, []int{0, 0, 0, 0, 0, 0, n}, good, nil, nil, api.ErrRange)
		splitIs(t, []int{n, 1, 2}, good, nil, nil, api.ErrRange)
		splitIs(t, make([]int, 8), api.Overtime{Daily: n, Weekly: n}, nil, nil, api.ErrMany)
		splitIs(t, []int{n, 0, 0, 0, 0, 0, 0, 0}, good, nil, nil, api.ErrMany)
		for _, worked := range [][]int{nil, {600}, {1440, 1440}, make([]int, 7)} {
			splitIs(t, worked, api.Overtime{Daily: n, Weekly: 2400}, nil, nil, api.ErrRange)
			if n != 1441 {
				splitIs(t, worked, api.Overtime{Daily: 480, Weekly: n}, nil, nil, api.ErrRange)
			}
		}
	}
	splitIs(t, make([]int, 8), good, nil, nil, api.ErrMany)
	splitIs(t, make([]int, 1<<16), good, nil, nil, api.ErrMany)
	splitIs(t, []int{5}, api.Overtime{Daily: 5, Weekly: 1441}, []int{5}, []int{0}, api.OK)
}

func sum(l []int) int {
	n := 0
	for _, x := range l {
		n += x
	}
	return n
}

// TestK4Split: both together are what was worked, within both bounds, and one minute more on a day gives no less overtime.
func TestK4Split(t *testing.T) {
	d := draw(13)
	for range 5000 {
		worked, o := drawWeek(&d)
		usual, over, err := Split(worked, o)
		if err != api.OK || len(usual) != len(worked) || len(over) != len(worked) || sum(usual) > o.Weekly {
			t.Fatalf("Split(%v, %v) = %v, %v, %d", worked, o, usual, over, err)
		}
		for i, n := range worked {
			if usual[i]+over[i] != n || usual[i] > o.Daily || usual[i] < 0 || over[i] < 0 {
				t.Fatalf("Split(%v, %v) = %v, %v", worked, o, usual, over)
			}
		}
		for i, n := range worked {
			if n == 1440 {
				continue
			}
			more := slices.Clone(worked)
			more[i] += 1 + d.below(1440-n)
			if _, again, err := Split(more, o); err != api.OK || sum(again) < sum(over) {
				t.Fatalf("overtime of %v is %v, and of %v %v (%v)", worked, over, more, again, o)
			}
		}
	}
}

// TestP1: whatever is handed in, beside an error there is nothing.
func TestP1(t *testing.T) {
	d := draw(17)
	edges := []int{math.MinInt, math.MinInt + 1, -1441, -1, 0, 1, 2, 3, 59, 60, 61, 720, 1439, 1440, 1441, 10080, 10081, math.MaxInt - 1, math.MaxInt}
	some := func() int { return edges[d.below(len(edges))] }
	for range 30000 {
		l := make([]int, d.below(9))
		for i := range l {
			l[i] = some()
		}
		if pairs, err := Pairs(l); err != api.OK && pairs != nil {
			t.Fatalf("Pairs(%v) = %v, %d", l, pairs, err)
		}
		if n, err := Worked(l, some(), d.below(9)-1); err != api.OK && n != 0 {
			t.Fatalf("Worked(%v) = %d, %d", l, n, err)
		}
		if n, err := Within(l, some(), some()); err != api.OK && n != 0 {
			t.Fatalf("Within(%v) = %d, %d", l, n, err)
		}
		if usual, over, err := Split(l, api.Overtime{Daily: some(), Weekly: some()}); err != api.OK && (usual != nil || over != nil) {
			t.Fatalf("Split(%v) = %v, %v, %d", l, usual, over, err)
		}
	}
}

// TestP2: lists are only read, their spare room too; what comes out is new, and both lists of Split are two.
func TestP2(t *testing.T) {
	room := []int{100, 200, 300, 400, 77, 78}
	times := room[:4]
	pairs, _ := Pairs(times)
	Worked(times, 15, api.RoundUp)
	Within(times, 150, 350)
	o := api.Overtime{Daily: 250, Weekly: 600}
	usual, over, _ := Split(times, o)
	pairs[0] = api.Period{From: 9, To: 9}
	_ = append(pairs, api.Period{From: 9, To: 9})
	for i := range usual {
		usual[i] = -5
	}
	_ = append(usual, -5)
	if !slices.Equal(over, []int{0, 0, 50, 350}) {
		t.Errorf("what is overtime became %v", over)
	}
	for i := range over {
		over[i] = -6
	}
	_ = append(over, -6)
	if !slices.Equal(usual, []int{-5, -5, -5, -5}) || !slices.Equal(room, []int{100, 200, 300, 400, 77, 78}) {
		t.Errorf("what was handed in became %v, what is no overtime %v", room, usual)
	}
	pairsAre(t, times, []api.Period{{From: 100, To: 200}, {From: 300, To: 400}}, api.OK)
	splitIs(t, times, o, []int{100, 200, 250, 50}, []int{0, 0, 50, 350}, api.OK)
}
