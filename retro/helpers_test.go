package retro

import (
	"math"
	"slices"
	"strings"
	"testing"

	"paycycle/api"
	"paycycle/calendar"
	"paycycle/period"
	"paycycle/rules"
	"paycycle/value"
)

// draw makes small numbers, the same each time.
type draw uint64

func (d *draw) below(n int) int {
	*d = *d*6364136223846793005 + 1442695040888963407
	return int(uint64(*d) >> 33 % uint64(n))
}

func oneOf[T any](d *draw, things ...T) T { return things[d.below(len(things))] }

// parsed has the lines of a text of rules.
func parsed(t *testing.T, s string) []api.Line {
	t.Helper()
	l, fault := rules.Parse(s)
	if fault != (api.Fault{}) {
		t.Fatalf("Parse(%q): %v", s, fault)
	}
	return l
}

func named(name string) api.Expr { return api.Expr{Kind: api.ExprName, Name: name} }

// letters: a name for each number, rising.
func letters(n int) string { return string([]byte{'a' + byte(n/26), 'a' + byte(n%26)}) }

func input(name string, rows ...api.Row) api.Input { return api.Input{Name: name, Rows: rows} }

func row(from, seen, value int) api.Row { return api.Row{From: from, Seen: seen, Value: value} }

func gone(from, seen int) api.Row { return api.Row{From: from, Seen: seen, Gone: true} }

// monthly has the months from January 2000 on.
func monthly(l []api.Line, inputs ...api.Input) api.Plan {
	return api.Plan{Schedule: api.Schedule{Kind: api.ScheduleMonth}, Lines: l, Inputs: inputs}
}

func weekly(anchor int, l []api.Line, inputs ...api.Input) api.Plan {
	return api.Plan{Schedule: api.Schedule{Kind: api.ScheduleWeek, Anchor: anchor}, Lines: l, Inputs: inputs}
}

func sameLists(a, b [][]int) bool { return slices.EqualFunc(a, b, slices.Equal[[]int]) }

func freshIs(t *testing.T, p api.Plan, from, to, seen int, want [][]int, wantErr api.Errno) {
	t.Helper()
	if got, err := Fresh(p, from, to, seen); !sameLists(got, want) || err != wantErr {
		t.Errorf("Fresh(%v, %d, %d, %d) = %v, %d; want %v, %d", p, from, to, seen, got, err, want, wantErr)
	}
}

func firstIs(t *testing.T, p api.Plan, was, is, want int, wantSome bool, wantErr api.Errno) {
	t.Helper()
	if got, some, err := First(p, was, is); got != want || some != wantSome || err != wantErr {
		t.Errorf("First(%v, %d, %d) = %d, %v, %d; want %d, %v, %d", p, was, is, got, some, err, want, wantSome, wantErr)
	}
}

func deltaIs(t *testing.T, p api.Plan, from, to, was, is int, want []int, wantErr api.Errno) {
	t.Helper()
	if got, err := Delta(p, from, to, was, is); !slices.Equal(got, want) || err != wantErr {
		t.Errorf("Delta(%v, %d, %d, %d, %d) = %v, %d; want %v, %d", p, from, to, was, is, got, err, want, wantErr)
	}
}

// refused holds all calls against one error: they tell what Check does, whatever else is wrong.
func refused(t *testing.T, p api.Plan, want api.Errno) {
	t.Helper()
	if got := Check(p); got != want {
		t.Errorf("Check: %d; want %d", got, want)
	}
	for _, c := range [][3]int{{0, 0, 0}, {-1, 0, 0}, {1, 0, 0}, {0, 60, 0}, {5000, 5000, 0}, {0, 0, -1}, {0, math.MaxInt, 9}} {
		if got, err := Fresh(p, c[0], c[1], c[2]); len(got) != 0 || err != want {
			t.Errorf("Fresh with %v: %v, %d; want %d", c, got, err, want)
		}
		if got, err := Delta(p, c[0], c[1], c[2], 0); len(got) != 0 || err != want {
			t.Errorf("Delta with %v: %v, %d; want %d", c, got, err, want)
		}
		if got, some, err := First(p, c[2], 0); got != 0 || some || err != want {
			t.Errorf("First with %v: %v, %v, %d; want %d", c, got, some, err, want)
		}
	}
}

// held goes through rows from the last one entered on: what is so at a day, as known at another one.
func held(rows []api.Row, day, seen int) (int, bool) {
	for from := day; from >= 0; from-- {
		for i := len(rows) - 1; i >= 0; i-- {
			if r := rows[i]; r.From == from && r.Seen <= seen {
				return r.Value, !r.Gone
			}
		}
	}
	return 0, false
}

func yearAt(day int) int {
	date, _ := calendar.Civil(day)
	return date.Year
}

// slowly reckons as the document says it, and looks for each period through all those ahead of it.
func slowly(p api.Plan, from, to, seen int) ([][]int, api.Errno) {
	var all [][]int
	var begins []int
	for k := from; k <= to; k++ {
		days, err := period.At(p.Schedule, k)
		if err != api.OK {
			return nil, err
		}
		known := api.Known{Tables: p.Tables}
		for _, in := range p.Inputs {
			n, _ := held(in.Rows, days.From, seen)
			known.Inputs = append(known.Inputs, api.Amount{Name: in.Name, Money: n})
		}
		for i, line := range p.Lines {
			sum := 0
			for j, values := range all {
				if yearAt(begins[j]) == yearAt(days.From) {
					sum += values[i]
				}
			}
			if sum != 0 {
				known.Years = append(known.Years, api.Amount{Name: line.Name, Money: sum})
			}
		}
		slices.SortFunc(known.Years, func(a, b api.Amount) int { return strings.Compare(a.Name, b.Name) })
		values, _, err := value.Lines(p.Lines, known)
		if err != api.OK {
			return nil, err
		}
		all, begins = append(all, values), append(begins, days.From)
	}
	return all, api.OK
}

// drawRows has rows that begin in the first two years or so, seen one behind the other.
func drawRows(d *draw, n, most int) []api.Row {
	var rows []api.Row
	seen := 0
	for range n {
		seen += d.below(4)
		r := row(d.below(800), seen, d.below(2*most+1)-most)
		if d.below(5) == 0 {
			r = gone(r.From, seen)
		}
		rows = append(rows, r)
	}
	return rows
}

// texts of rules that ask for `bonus` and `pay`, for the table `t`, and for years, of lines ahead and behind.
var texts = [...]string{
	"",
	"earn a = pay;",
	"earn z = pay + bonus; take b = min(50 % of z, 10 - year b); let m = year z - year b;",
	"earn z = year b + 1; earn b = pay; let a = year z - year a;",
	"earn wage = if pay < bonus then pay else bonus; tax due = table t of max(wage, 0) - year due / 2; let all = wage - due;",
	"let c = pay * 3; let b = -year c; let a = max(b, year b);",
}

func drawPlan(t *testing.T, d *draw) api.Plan {
	return api.Plan{
		Schedule: api.Schedule{Kind: 1 + d.below(4), Anchor: d.below(500), Lag: d.below(5)},
		Lines:    parsed(t, oneOf(d, texts[:]...)),
		Tables:   []api.Table{{Name: "t", Brackets: []api.Bracket{{From: 0, Rate: 1000}, {From: 300, Rate: 2050}}}},
		Inputs:   []api.Input{input("bonus", drawRows(d, d.below(6), 500)...), input("pay", drawRows(d, d.below(9), 1000)...)},
	}
}
