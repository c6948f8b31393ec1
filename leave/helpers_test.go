package leave

import (
	"math"
	"slices"
	"testing"
	"time"

	"paycycle/api"
)

// draw makes small numbers, the same each time.
type draw uint64

func (d *draw) below(n int) int {
	*d = *d*6364136223846793005 + 1442695040888963407
	return int(uint64(*d) >> 33 % uint64(n))
}

func leaveOf(hired, rate, carry int) api.Leave {
	return api.Leave{Hired: hired, Rate: rate, Carry: carry}
}

// used has uses of a day, how many, of another day, how many, and so on.
func used(l ...int) []api.Use {
	var uses []api.Use
	for pair := range slices.Chunk(l, 2) {
		uses = append(uses, api.Use{Day: pair[0], Days: pair[1]})
	}
	return uses
}

// goDate is a second way to a day's date: that of Go's library.
func goDate(day int) time.Time { return time.Date(2000, 1, 1+day, 0, 0, 0, 0, time.UTC) }

// book is what is had at the end of each day, from Hired on (below 0, if more is used), and what was lost up to it.
type book struct{ had, lost []int }

// dayByDay writes a book up to a day.
func dayByDay(l api.Leave, uses []api.Use, to int) book {
	var b book
	had, lost := 0, 0
	for day := l.Hired; day <= to; day++ {
		date := goDate(day)
		if day > l.Hired && date.YearDay() == 1 && had > l.Carry {
			lost += had - l.Carry
			had = l.Carry
		}
		if day > l.Hired && date.Day() == 1 {
			had += l.Rate
		}
		for _, u := range uses {
			if u.Day == day {
				had -= u.Days
			}
		}
		b.had, b.lost = append(b.had, had), append(b.lost, lost)
	}
	return b
}

// sayOfLeave is what T2 asks of Check.
func sayOfLeave(l api.Leave, uses []api.Use) api.Errno {
	if l.Hired < 0 || l.Hired > 73048 || l.Rate < 0 || l.Rate > 1000 || l.Carry < 0 || l.Carry > 100000 {
		return api.ErrRange
	}
	if len(uses) > 100 {
		return api.ErrMany
	}
	to := l.Hired
	for i, u := range uses {
		if u.Day < 0 || u.Day > 73048 || u.Day < l.Hired || u.Days < 1 || u.Days > 100000 {
			return api.ErrRange
		}
		for _, ahead := range uses[:i] {
			if u.Day < ahead.Day {
				return api.ErrState
			}
		}
		to = u.Day
	}
	if slices.Min(dayByDay(l, uses, to).had) < 0 {
		return api.ErrState
	}
	return api.OK
}

// sayFirst is what T3 asks of First, if there is such a day up to another one.
func sayFirst(l api.Leave, uses []api.Use, from, days, to int) (int, api.Errno) {
	had := dayByDay(l, uses, to).had
	for day := max(from, l.Hired); day <= to; day++ {
		if had[day-l.Hired] >= days && !slices.ContainsFunc(uses, func(u api.Use) bool { return u.Day > day }) {
			return day, api.OK
		}
	}
	return 0, api.ErrNone
}

// someLeaves: those whose days lie at the edges of months and years, and others.
func someLeaves() []api.Leave {
	return []api.Leave{
		{}, leaveOf(0, 250, 1000), leaveOf(0, 1000, 0), leaveOf(1, 250, 1000), leaveOf(10, 250, 1000), leaveOf(30, 83, 500), leaveOf(31, 100, 0), leaveOf(32, 1, 12), leaveOf(59, 7, 3), leaveOf(60, 1000, 100000),
		leaveOf(364, 250, 0), leaveOf(365, 250, 0), leaveOf(366, 250, 0), leaveOf(367, 0, 100000), leaveOf(366, 1000, 11999), leaveOf(366, 1000, 12000), leaveOf(366, 1000, 11000), leaveOf(366, 1000, 10999),
	}
}

// drawUses has uses that are there, most of them; some use up all that is had.
func drawUses(d *draw, l api.Leave, n, far int) []api.Use {
	var days []int
	for range n {
		days = append(days, l.Hired+d.below(far))
	}
	slices.Sort(days)
	var uses []api.Use
	for _, day := range days {
		had := dayByDay(l, uses, day).had
		now := had[len(had)-1]
		switch {
		case now == 0:
		case d.below(3) == 0:
			uses = append(uses, api.Use{Day: day, Days: now})
		default:
			uses = append(uses, api.Use{Day: day, Days: 1 + d.below(now)})
		}
	}
	return uses
}

func checkIs(t *testing.T, l api.Leave, uses []api.Use, want api.Errno) {
	t.Helper()
	if got := Check(l, uses); got != want {
		t.Errorf("Check(%v, %.200v) = %d; want %d", l, uses, got, want)
	}
}

func hadIs(t *testing.T, l api.Leave, uses []api.Use, day, want int, wantErr api.Errno) {
	t.Helper()
	if got, err := Had(l, uses, day); got != want || err != wantErr {
		t.Errorf("Had(%v, %v, %d) = %d, %d; want %d, %d", l, uses, day, got, err, want, wantErr)
	}
}

func firstIs(t *testing.T, l api.Leave, uses []api.Use, from, days, want int, wantErr api.Errno) {
	t.Helper()
	if got, err := First(l, uses, from, days); got != want || err != wantErr {
		t.Errorf("First(%v, %v, %d, %d) = %d, %d; want %d, %d", l, uses, from, days, got, err, want, wantErr)
	}
}

func lastIs(t *testing.T, l api.Leave, day, want int, wantErr api.Errno) {
	t.Helper()
	if got, err := Last(l, day); got != want || err != wantErr {
		t.Errorf("Last(%v, %d) = %d, %d; want %d, %d", l, day, got, err, want, wantErr)
	}
}

func noDays() []int {
	return []int{math.MinInt, -1, api.MaxDay + 1, math.MaxInt}
}

func noUsed() []int {
	return []int{math.MinInt, -1, 0, 100001, math.MaxInt}
}

// refused holds all calls that are handed uses against one error: they tell what Check does, whatever else is wrong with what they are asked.
func refused(t *testing.T, l api.Leave, uses []api.Use, want api.Errno) {
	t.Helper()
	checkIs(t, l, uses, want)
	for _, day := range append(noDays(), 0, 5, 100, api.MaxDay) {
		hadIs(t, l, uses, day, 0, want)
		for _, days := range append(noUsed(), 1, 250) {
			firstIs(t, l, uses, day, days, 0, want)
		}
	}
}
