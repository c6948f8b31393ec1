package bind

import (
	"math"
	"slices"
	"strings"
	"testing"

	"paycycle/api"
)

var wrongNames = []string{"", "if", "year", "abcdefghi", "A", "a1", " a", "a ", "\xff", "ä", strings.Repeat("a", 1<<16)}

var noMoney = []int{math.MinInt, -api.MaxMoney - 1, api.MaxMoney + 1, math.MaxInt}

// knownIs asks Known, and Lines, which tells it with 0 of lines that are right, whatever their names mean.
func knownIs(t *testing.T, k api.Known, want api.Errno) {
	t.Helper()
	if got := Known(k); got != want {
		t.Errorf("Known(%.300v) = %d; want %d", k, got, want)
	}
	if at, err := Lines(nil, k); at != 0 || err != want {
		t.Errorf("Lines of nothing with %.300v = %d, %d; want %d", k, at, err, want)
	}
	if want == api.OK {
		return
	}
	for _, l := range [][]api.Line{{let("a", number(1))}, {let("a", number(1)), let("a", named("none"))}} {
		if at, err := Lines(l, k); at != 0 || err != want {
			t.Errorf("Lines(%v, %.300v) = %d, %d; want %d", l, k, at, err, want)
		}
	}
}

// amountsAre asks of amounts as inputs, and as years.
func amountsAre(t *testing.T, l []api.Amount, want api.Errno) {
	t.Helper()
	knownIs(t, api.Known{Inputs: l}, want)
	knownIs(t, api.Known{Years: l}, want)
	knownIs(t, api.Known{Inputs: l, Years: l}, want)
	knownIs(t, api.Known{Inputs: []api.Amount{amount("zz", 1)}, Tables: []api.Table{table("a")}, Years: l}, want)
	knownIs(t, api.Known{Inputs: l, Tables: []api.Table{table("a"), table("b")}, Years: []api.Amount{amount("a", 1)}}, want)
}

func TestH1Right(t *testing.T) {
	amountsAre(t, nil, api.OK)
	amountsAre(t, []api.Amount{}, api.OK)
	amountsAre(t, []api.Amount{amount("a", api.MaxMoney), amount("aa", -api.MaxMoney), amount("ab", 0), amount("abcdefgh", 1), amount("b", 1)}, api.OK)
	knownIs(t, knownOf(rising(api.MaxNames), rising(api.MaxNames), rising(api.MaxNames)), api.OK)
	knownIs(t, knownOf([]string{"a"}, []string{"a"}, []string{"a"}), api.OK) // each kind has names of its own
}

func TestH1Many(t *testing.T) {
	more := rising(api.MaxNames + 1)
	knownIs(t, knownOf(more, nil, nil), api.ErrMany)
	knownIs(t, knownOf(nil, more, nil), api.ErrMany)
	knownIs(t, knownOf(nil, nil, more), api.ErrMany)
	for _, wrong := range []api.Known{{Inputs: []api.Amount{{}}}, {Inputs: []api.Amount{amount("a", math.MinInt)}}, {Inputs: []api.Amount{amount("a", 1), amount("a", 1)}}} {
		wrong.Tables = make([]api.Table, api.MaxNames+1)
		knownIs(t, wrong, api.ErrMany)
		wrong.Tables = nil
		wrong.Years = make([]api.Amount, api.MaxNames+1)
		knownIs(t, wrong, api.ErrMany)
	}
	knownIs(t, api.Known{Inputs: make([]api.Amount, 1<<16)}, api.ErrMany)
}

func TestH1Form(t *testing.T) {
	for _, name := range wrongNames {
		wrong := amount(name, 1)
		amountsAre(t, []api.Amount{wrong}, api.ErrForm)
		amountsAre(t, []api.Amount{amount("a", 1), wrong}, api.ErrForm)
		amountsAre(t, []api.Amount{wrong, amount("a", 1)}, api.ErrForm)
		amountsAre(t, []api.Amount{amount("a", math.MaxInt), wrong}, api.ErrForm)                 // named ahead of ErrRange,
		amountsAre(t, []api.Amount{amount("b", 1), amount("a", 1), wrong}, api.ErrForm)           // and of ErrTwice,
		amountsAre(t, []api.Amount{amount("a", 1), amount("a", math.MinInt), wrong}, api.ErrForm) // wherever it stands
	}
	amountsAre(t, make([]api.Amount, api.MaxNames), api.ErrForm)
}

func TestH1Range(t *testing.T) {
	for _, n := range noMoney {
		amountsAre(t, []api.Amount{amount("a", n)}, api.ErrRange)
		amountsAre(t, []api.Amount{amount("a", 1), amount("b", n)}, api.ErrRange)
		amountsAre(t, []api.Amount{amount("b", 1), amount("a", 1), amount("c", n)}, api.ErrRange)
		amountsAre(t, []api.Amount{amount("a", 1), amount("a", n)}, api.ErrRange)
	}
}

func TestH1Twice(t *testing.T) {
	for _, l := range [][]string{{"a", "a"}, {"b", "a"}, {"aa", "a"}, {"b", "ab"}, {"a", "b", "b"}, {"a", "c", "b"}, {"b", "a", "c"}, {"a", "b", "a"}} {
		amountsAre(t, knownOf(l, nil, nil).Inputs, api.ErrTwice)
		knownIs(t, knownOf(nil, l, nil), api.ErrTwice)
		knownIs(t, knownOf([]string{"a"}, l, []string{"a"}), api.ErrTwice)
	}
}

// wrongTables: one for each error that Check has of a table.
func wrongTables() map[api.Errno]api.Table {
	return map[api.Errno]api.Table{
		api.ErrForm:  {Name: "if", Brackets: table("a").Brackets},
		api.ErrMany:  {Name: "b"},
		api.ErrRange: {Name: "c", Brackets: []api.Bracket{{From: 0, Rate: 10001}}},
		api.ErrState: {Name: "d", Brackets: []api.Bracket{{From: 1, Rate: 1}}},
	}
}

func TestH1Tables(t *testing.T) {
	for want, wrong := range wrongTables() {
		knownIs(t, api.Known{Tables: []api.Table{wrong}}, want)
		knownIs(t, api.Known{Tables: []api.Table{table("a"), wrong}}, want)
		knownIs(t, api.Known{Tables: []api.Table{wrong, table("z")}}, want)
		knownIs(t, api.Known{Tables: []api.Table{table("y"), table("x"), wrong}}, want) // ahead of ErrTwice
		for _, other := range wrongTables() {
			knownIs(t, api.Known{Tables: []api.Table{table("a"), wrong, other}}, want) // in order
		}
	}
}

// wrongAmounts: a list for each error that amounts have.
func wrongAmounts() map[api.Errno][]api.Amount {
	return map[api.Errno][]api.Amount{
		api.ErrForm:  {amount("?", 1)},
		api.ErrRange: {amount("a", math.MaxInt)},
		api.ErrTwice: {amount("a", 1), amount("a", 1)},
	}
}

// TestH1Order: inputs, then years, then tables.
func TestH1Order(t *testing.T) {
	for want, wrong := range wrongAmounts() {
		for _, other := range wrongAmounts() {
			knownIs(t, api.Known{Inputs: wrong, Years: other}, want)
		}
		for _, other := range wrongTables() {
			knownIs(t, api.Known{Inputs: wrong, Tables: []api.Table{other}}, want)
			knownIs(t, api.Known{Years: wrong, Tables: []api.Table{other}}, want)
		}
		knownIs(t, api.Known{Years: wrong, Tables: []api.Table{table("b"), table("a")}}, want)
	}
}

// knownByPairs asks by other means: each name against each, and names letter by letter.
func knownByPairs(k api.Known) api.Errno {
	words := strings.Fields("earn take tax let if then else of year table min max")
	isName := func(s string) bool {
		return len(s) >= 1 && len(s) <= 8 && strings.Trim(s, "abcdefghijklmnopqrstuvwxyz") == "" && !slices.Contains(words, s)
	}
	for _, l := range [][]api.Amount{k.Inputs, k.Years} {
		var told [3]bool
		for i, a := range l {
			told[0] = told[0] || !isName(a.Name)
			told[1] = told[1] || a.Money > 1000000000000 || a.Money < -1000000000000
			for _, b := range l[:i] {
				told[2] = told[2] || strings.Compare(b.Name, a.Name) >= 0
			}
		}
		for i, err := range []api.Errno{api.ErrForm, api.ErrRange, api.ErrTwice} {
			if told[i] {
				return err
			}
		}
	}
	twice := api.OK
	for i, a := range k.Tables {
		if !isName(a.Name) {
			return api.ErrForm
		}
		for _, b := range k.Tables[:i] {
			if strings.Compare(b.Name, a.Name) >= 0 {
				twice = api.ErrTwice
			}
		}
	}
	return twice
}

func TestH1Drawn(t *testing.T) {
	d := draw(3)
	told := map[api.Errno]int{}
	for range 20000 {
		var lists [3][]string
		for i := range lists {
			for range d.below(4) {
				lists[i] = append(lists[i], d.oneOf("a", "b", "c", "ab", "ba", "bb", "d", "e", "f", "of"))
			}
			if d.below(4) > 0 {
				slices.Sort(lists[i])
			}
		}
		k := knownOf(lists[0], lists[1], lists[2])
		for _, l := range [][]api.Amount{k.Inputs, k.Years} {
			if len(l) > 0 && d.below(8) == 0 {
				l[d.below(len(l))].Money = noMoney[d.below(len(noMoney))]
			}
		}
		want := knownByPairs(k)
		told[want]++
		knownIs(t, k, want)
	}
	for _, err := range []api.Errno{api.OK, api.ErrForm, api.ErrRange, api.ErrTwice} {
		if told[err] < 200 {
			t.Errorf("%d was told %d times only", err, told[err])
		}
	}
}
