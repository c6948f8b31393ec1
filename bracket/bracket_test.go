package bracket

import (
	"math"
	"math/big"
	"slices"
	"strings"
	"testing"

	"paycycle/api"
)

// draw makes small numbers, the same each time.
type draw uint64

func (d *draw) below(n int) int {
	*d = *d*6364136223846793005 + 1442695040888963407
	return int(uint64(*d) >> 33 % uint64(n))
}

// brackets of pairs: From, Rate.
func brackets(pairs ...int) []api.Bracket {
	var l []api.Bracket
	for i := 0; i < len(pairs); i += 2 {
		l = append(l, api.Bracket{From: pairs[i], Rate: pairs[i+1]})
	}
	return l
}

func table(pairs ...int) api.Table { return api.Table{Name: "t", Brackets: brackets(pairs...)} }

// steps: so many brackets, one at each multiple of width.
func steps(n, width, rate int) api.Table {
	t := api.Table{Name: "t"}
	for i := range n {
		t.Brackets = append(t.Brackets, api.Bracket{From: i * width, Rate: rate})
	}
	return t
}

// drawTable has Froms below reach, close together, and rates up to most, the edges often.
func drawTable(d *draw, reach, most int) api.Table {
	t := table(0, d.below(most+1))
	from := 0
	for range d.below(api.MaxBrackets) {
		from += 1 + d.below(reach)
		t.Brackets = append(t.Brackets, api.Bracket{From: from, Rate: []int{0, 1, most / 2, most - 1, most, d.below(most + 1)}[d.below(6)]})
	}
	return t
}

func sameTable(a, b api.Table) bool {
	return a.Name == b.Name && slices.Equal(a.Brackets, b.Brackets)
}

// checkIs asks Check, and all others, with bases that are money and ones that are not: they tell the same of a table that is wrong.
func checkIs(t *testing.T, x api.Table, want api.Errno) {
	t.Helper()
	if got := Check(x); got != want {
		t.Errorf("Check(%.200v) = %d; want %d", x, got, want)
	}
	if want == api.OK {
		return
	}
	for _, n := range []int{math.MinInt, -1, 0, 1, api.MaxMoney, math.MaxInt} {
		if tax, err := Tax(x, n); tax != 0 || err != want {
			t.Errorf("Tax(%.200v, %d) = %d, %d; want %d", x, n, tax, err, want)
		}
		if rate, err := Rate(x, n); rate != 0 || err != want {
			t.Errorf("Rate(%.200v, %d) = %d, %d; want %d", x, n, rate, err, want)
		}
		if gross, err := Gross(x, n); gross != 0 || err != want {
			t.Errorf("Gross(%.200v, %d) = %d, %d; want %d", x, n, gross, err, want)
		}
	}
	bothIs(t, x, table(0, 10000), api.Table{}, want)
	bothIs(t, table(0, 10000), x, api.Table{}, want)
}

func bothIs(t *testing.T, a, b, want api.Table, wantErr api.Errno) {
	t.Helper()
	if got, err := Both(a, b); !sameTable(got, want) || err != wantErr {
		t.Errorf("Both(%.200v, %.200v) = %v, %d; want %v, %d", a, b, got, err, want, wantErr)
	}
}

func TestG1Right(t *testing.T) {
	for _, x := range []api.Table{
		table(0, 0), table(0, 10000), table(0, 1, 1, 1), table(0, 1, api.MaxMoney, 10000), table(0, 9, 5, 3, 6, 9, 100, 0),
		steps(api.MaxBrackets, 1, 10000), {Name: "abcdefgh", Brackets: brackets(0, 5)}, {Name: "z", Brackets: make([]api.Bracket, 1, 40)},
	} {
		checkIs(t, x, api.OK)
	}
}

func TestG1Name(t *testing.T) {
	for _, name := range []string{"", "if", "of", "table", "max", "abcdefghi", "A", "a1", " a", "a ", "a-b", "\xff", "ä", strings.Repeat("a", 1<<16)} {
		for _, l := range [][]api.Bracket{nil, brackets(0, 1), brackets(1, 1), brackets(0, -1), make([]api.Bracket, 13)} {
			checkIs(t, api.Table{Name: name, Brackets: l}, api.ErrForm)
		}
	}
}

func TestG1Many(t *testing.T) {
	checkIs(t, api.Table{Name: "t"}, api.ErrMany)
	checkIs(t, api.Table{Name: "t", Brackets: []api.Bracket{}}, api.ErrMany)
	checkIs(t, steps(api.MaxBrackets+1, 1, 1), api.ErrMany)
	checkIs(t, steps(api.MaxBrackets+1, 1, 10001), api.ErrMany)
	checkIs(t, steps(api.MaxBrackets+1, 0, 1), api.ErrMany)
	checkIs(t, steps(1<<16, 1, -1), api.ErrMany)
}

func TestG1Range(t *testing.T) {
	for _, n := range []int{math.MinInt, -api.MaxMoney, -1, api.MaxMoney + 1, math.MaxInt} {
		checkIs(t, table(n, 1), api.ErrRange)
		checkIs(t, table(0, 1, n, 1), api.ErrRange)
		checkIs(t, table(0, 1, n, 1, 7, 1), api.ErrRange)
	}
	for _, n := range []int{math.MinInt, -1, 10001, api.MaxRate, math.MaxInt} {
		checkIs(t, table(0, n), api.ErrRange)
		checkIs(t, table(0, 1, 5, n), api.ErrRange)
		checkIs(t, table(0, 1, 5, n, 7, 1), api.ErrRange)
		checkIs(t, table(0, 1, 0, 1, 7, n), api.ErrRange) // named ahead of ErrState, wherever it stands
		checkIs(t, table(1, 1, 0, n), api.ErrRange)
	}
}

func TestG1State(t *testing.T) {
	for _, x := range []api.Table{
		table(1, 0), table(1, 0, 2, 0), table(api.MaxMoney, 0), table(0, 1, 0, 2), table(0, 1, 5, 2, 5, 2), table(0, 1, 5, 2, 4, 2), table(0, 1, 5, 2, 0, 2), table(5, 1, 0, 2),
		steps(api.MaxBrackets, 0, 1),
	} {
		checkIs(t, x, api.ErrState)
	}
}

func TestG1OfBothInOrder(t *testing.T) {
	wrong := []api.Table{{}, {Name: "t"}, table(0, -1), table(1, 1)}
	errs := []api.Errno{api.ErrForm, api.ErrMany, api.ErrRange, api.ErrState}
	for i, a := range wrong {
		for _, b := range wrong {
			bothIs(t, a, b, api.Table{}, errs[i])
		}
	}
}

func taxIs(t *testing.T, x api.Table, base, want int, wantErr api.Errno) {
	t.Helper()
	if got, err := Tax(x, base); got != want || err != wantErr {
		t.Errorf("Tax(%v, %d) = %d, %d; want %d, %d", x, base, got, err, want, wantErr)
	}
}

func TestG2Tax(t *testing.T) {
	ten := table(0, 1000, 100, 2000)
	for base, want := range map[int]int{-api.MaxMoney: 0, -100: 0, -1: 0, 0: 0, 4: 0, 5: 1, 14: 1, 15: 2, 100: 10, 102: 10, 103: 11, 200: 30, api.MaxMoney: 199999999990} {
		taxIs(t, ten, base, want, api.OK)
	}
	taxIs(t, table(0, 10000), api.MaxMoney, api.MaxMoney, api.OK)
	taxIs(t, table(0, 0), api.MaxMoney, 0, api.OK)
	taxIs(t, table(0, 0, api.MaxMoney, 10000), api.MaxMoney, 0, api.OK)
	taxIs(t, table(0, 0, api.MaxMoney-1, 10000), api.MaxMoney, 1, api.OK)
	taxIs(t, table(0, 4999), 1, 0, api.OK)
	taxIs(t, table(0, 5000), 1, 1, api.OK)
	taxIs(t, table(0, 2500, 1, 2500), 2, 1, api.OK) // two quarters, rounded once
	taxIs(t, table(0, 4999, 1, 4999), 2, 1, api.OK)
	taxIs(t, table(0, 5000, 1, 5000), 2, 1, api.OK)
	taxIs(t, steps(api.MaxBrackets, 1, 400), api.MaxBrackets, 0, api.OK)
	taxIs(t, steps(api.MaxBrackets, 1, 500), api.MaxBrackets, 1, api.OK)
}

func TestG2NoMoney(t *testing.T) {
	for _, base := range []int{math.MinInt, -api.MaxMoney - 1, api.MaxMoney + 1, math.MaxInt} {
		taxIs(t, table(0, 1), base, 0, api.ErrRange)
		if rate, err := Rate(table(0, 1), base); rate != 0 || err != api.ErrRange {
			t.Errorf("Rate of %d: %d, %d", base, rate, err)
		}
	}
}

func TestG2Rate(t *testing.T) {
	x := table(0, 700, 100, 0, 250, 10000, api.MaxMoney, 5)
	for base, want := range map[int]int{-api.MaxMoney: 700, -1: 700, 0: 700, 1: 700, 99: 700, 100: 700, 101: 0, 249: 0, 250: 0, 251: 10000, api.MaxMoney: 10000} {
		if got, err := Rate(x, base); got != want || err != api.OK {
			t.Errorf("Rate(%v, %d) = %d, %d; want %d", x, base, got, err, want)
		}
	}
	if got, err := Rate(table(0, 1, api.MaxMoney-1, 2), api.MaxMoney); got != 2 || err != api.OK {
		t.Errorf("Rate of all money = %d, %d", got, err)
	}
}

// unitRate: what the unit between base-1 and base is taken by, asked of each bracket by where it ends.
func unitRate(x api.Table, base int) int {
	for i, b := range x.Brackets {
		if i == len(x.Brackets)-1 || base <= x.Brackets[i+1].From {
			return b.Rate
		}
	}
	return -1
}

// TestG2UnitByUnit holds Tax and Rate against what each unit of base has, G5 along with it.
func TestG2UnitByUnit(t *testing.T) {
	d := draw(7)
	for range 300 {
		x := drawTable(&d, 1+d.below(40), 10000)
		parts, before := 0, 0
		for base := 1; base <= 300; base++ {
			parts += unitRate(x, base)
			want := (2*parts + 10000) / 20000
			taxIs(t, x, base, want, api.OK)
			if rate, err := Rate(x, base); rate != unitRate(x, base) || err != api.OK {
				t.Fatalf("Rate(%v, %d) = %d, %d", x, base, rate, err)
			}
			if more := want - before; more != 0 && more != 1 {
				t.Fatalf("of a table %v the unit behind %d has %d of tax", x, base-1, more)
			}
			before = want
		}
	}
}

// bigTax: all parts as fractions.
func bigTax(x api.Table, base int) int {
	sum := big.NewRat(1, 2)
	for i, b := range x.Brackets {
		if base <= b.From {
			break
		}
		width := base - b.From
		if i+1 < len(x.Brackets) && base > x.Brackets[i+1].From {
			width = x.Brackets[i+1].From - b.From
		}
		sum.Add(sum, new(big.Rat).Mul(big.NewRat(int64(width), 1), big.NewRat(int64(b.Rate), 10000)))
	}
	return int(new(big.Int).Div(sum.Num(), sum.Denom()).Int64())
}

func drawBase(d *draw, x api.Table) int {
	switch d.below(4) {
	case 0:
		return x.Brackets[d.below(len(x.Brackets))].From + d.below(3)
	case 1:
		return api.MaxMoney - d.below(100)
	}
	return (d.below(1<<20)*(1<<20) + d.below(1<<20)) % (api.MaxMoney + 1)
}

func TestG2Great(t *testing.T) {
	d := draw(11)
	for range 20000 {
		x := drawTable(&d, 1<<uint(1+d.below(30)), 10000)
		base := drawBase(&d, x)
		taxIs(t, x, base, bigTax(x, base), api.OK)
	}
}

func grossIs(t *testing.T, x api.Table, net, want int, wantErr api.Errno) {
	t.Helper()
	if got, err := Gross(x, net); got != want || err != wantErr {
		t.Errorf("Gross(%v, %d) = %d, %d; want %d, %d", x, net, got, err, want, wantErr)
	}
}

func TestG3Gross(t *testing.T) {
	ten := table(0, 1000, 100, 2000)
	for net, want := range map[int]int{0: 0, 1: 1, 4: 4, 5: 6, 90: 100, 91: 101, 170: 200} {
		grossIs(t, ten, net, want, api.OK)
	}
	all := table(0, 10000)
	grossIs(t, all, 0, 0, api.OK)
	grossIs(t, all, 1, 0, api.ErrNone)
	grossIs(t, all, api.MaxMoney, 0, api.ErrNone)
	none := table(0, 0)
	grossIs(t, none, 0, 0, api.OK)
	grossIs(t, none, api.MaxMoney, api.MaxMoney, api.OK)
	half := table(0, 5000)
	grossIs(t, half, api.MaxMoney/2, api.MaxMoney, api.OK)
	grossIs(t, half, api.MaxMoney/2+1, 0, api.ErrNone)
	grossIs(t, table(0, 10000, 7, 0), 1, 8, api.OK)
	grossIs(t, table(0, 0, 7, 10000), 7, 7, api.OK)
	grossIs(t, table(0, 0, 7, 10000), 8, 0, api.ErrNone)
	grossIs(t, table(0, 0, 7, 10000, api.MaxMoney-1, 0), 8, api.MaxMoney, api.OK)
	grossIs(t, table(0, 0, 7, 10000, api.MaxMoney, 0), 8, 0, api.ErrNone)
}

func TestG3Range(t *testing.T) {
	for _, net := range []int{math.MinInt, -api.MaxMoney, -1, api.MaxMoney + 1, math.MaxInt} {
		grossIs(t, table(0, 0), net, 0, api.ErrRange)
		grossIs(t, table(0, 10000), net, 0, api.ErrRange)
	}
}

// left is what a base leaves, less its tax.
func left(t *testing.T, x api.Table, base int) int {
	t.Helper()
	tax, err := Tax(x, base)
	if err != api.OK {
		t.Fatalf("Tax(%v, %d): %d", x, base, err)
	}
	return base - tax
}

// TestG5Gross: from below, base by base.
func TestG5Gross(t *testing.T) {
	d := draw(13)
	for range 300 {
		x := drawTable(&d, 1+d.below(40), 10000)
		base := 0
		for net := range 60 {
			for base < 2000 && left(t, x, base) < net {
				base++
			}
			if base == 2000 {
				break
			}
			grossIs(t, x, net, base, api.OK)
		}
	}
}

func TestG5GreatGross(t *testing.T) {
	d := draw(17)
	for range 5000 {
		x := drawTable(&d, 1<<uint(1+d.below(36)), 10000)
		net := drawBase(&d, x)
		if d.below(3) == 0 {
			net = left(t, x, api.MaxMoney) - 1 + d.below(3)
		}
		if net < 0 || net > api.MaxMoney {
			continue
		}
		gross, err := Gross(x, net)
		switch {
		case err == api.ErrNone:
			if gross != 0 || left(t, x, api.MaxMoney) >= net {
				t.Errorf("Gross(%v, %d) = %d, %d; all money leaves %d", x, net, gross, err, left(t, x, api.MaxMoney))
			}
		case err != api.OK || gross < 0 || gross > api.MaxMoney || left(t, x, gross) < net:
			t.Errorf("Gross(%v, %d) = %d, %d", x, net, gross, err)
		case gross > 0 && left(t, x, gross-1) >= net:
			t.Errorf("Gross(%v, %d) = %d; one less would do", x, net, gross)
		}
	}
}

func TestG4Both(t *testing.T) {
	a := table(0, 1000, 100, 3000)
	b := api.Table{Name: "u", Brackets: brackets(0, 500, 50, 0, 100, 10, 200, 7000)}
	bothIs(t, a, b, table(0, 1500, 50, 1000, 100, 3010, 200, 10000), api.OK)
	bothIs(t, b, a, api.Table{Name: "u", Brackets: brackets(0, 1500, 50, 1000, 100, 3010, 200, 10000)}, api.OK)
	bothIs(t, a, a, table(0, 2000, 100, 6000), api.OK)
	bothIs(t, table(0, 0), table(0, 10000), table(0, 10000), api.OK)
	bothIs(t, table(0, 1), table(0, 2, api.MaxMoney, 3), table(0, 3, api.MaxMoney, 4), api.OK)
	bothIs(t, table(0, 5, 10, 5), table(0, 5), table(0, 10, 10, 10), api.OK) // a bracket stays, though nothing changes there
}

func TestG4Range(t *testing.T) {
	bothIs(t, table(0, 10000), table(0, 1), api.Table{}, api.ErrRange)
	bothIs(t, table(0, 5000), table(0, 5001), api.Table{}, api.ErrRange)
	bothIs(t, table(0, 5000), table(0, 5000), table(0, 10000), api.OK)
	bothIs(t, table(0, 0, 7, 10000), table(0, 1), api.Table{}, api.ErrRange)
	bothIs(t, table(0, 1), table(0, 0, 7, 10000), api.Table{}, api.ErrRange)
	bothIs(t, table(0, 10000, 7, 0), table(0, 0, 7, 10000), table(0, 10000, 7, 10000), api.OK)
	bothIs(t, table(0, 10000, 8, 0), table(0, 0, 7, 10000), api.Table{}, api.ErrRange)
	bothIs(t, table(0, 0, api.MaxMoney, 10000), table(0, 1), api.Table{}, api.ErrRange)
}

func TestG4Many(t *testing.T) {
	odd := table(0, 1, 1, 1, 3, 1, 5, 1, 7, 1, 9, 1, 11, 1)
	even := table(0, 1, 2, 1, 4, 1, 6, 1, 8, 1, 10, 1)
	more := table(0, 1, 2, 1, 4, 1, 6, 1, 8, 1, 10, 1, 12, 1)
	bothIs(t, odd, even, steps(api.MaxBrackets, 1, 2), api.OK)
	bothIs(t, odd, more, api.Table{}, api.ErrMany)
	bothIs(t, more, odd, api.Table{}, api.ErrMany)
	full := steps(api.MaxBrackets, 10, 5000)
	bothIs(t, full, full, steps(api.MaxBrackets, 10, 10000), api.OK)
	between := table(0, 0, 5, 5000)
	bothIs(t, full, between, api.Table{}, api.ErrMany)
	for i := range between.Brackets { // ErrRange is named ahead of ErrMany, wherever it stands
		over := table(0, 0, 5, 0)
		over.Brackets[i].Rate = 5001
		bothIs(t, full, over, api.Table{}, api.ErrRange)
		bothIs(t, over, full, api.Table{}, api.ErrRange)
	}
	last := steps(api.MaxBrackets, 10, 0)
	last.Brackets[api.MaxBrackets-1].Rate = 5001
	bothIs(t, last, between, api.Table{}, api.ErrRange)
}

// bothBySet: each From that is there, put in where it belongs, with what both units above have.
func bothBySet(a, b api.Table) ([]api.Bracket, api.Errno) {
	var l []api.Bracket
	err := api.OK
	for _, x := range append(slices.Clone(a.Brackets), b.Brackets...) {
		one := api.Bracket{From: x.From, Rate: unitRate(a, x.From+1) + unitRate(b, x.From+1)}
		if !slices.Contains(l, one) {
			l = append(l, one)
		}
		if one.Rate > 10000 {
			err = api.ErrRange
		}
	}
	slices.SortFunc(l, func(x, y api.Bracket) int { return x.From - y.From })
	if err == api.OK && len(l) > 12 {
		err = api.ErrMany
	}
	if err != api.OK {
		return nil, err
	}
	return l, api.OK
}

// TestG5Both: the table is as said, and its tax is one unit off that of each at most.
func TestG5Both(t *testing.T) {
	d := draw(19)
	told := map[api.Errno]int{}
	for range 5000 {
		reach := 1 << uint(1+d.below(30))
		a, b := drawTable(&d, reach, 5002), drawTable(&d, reach, 5002)
		if d.below(2) == 0 {
			b = drawTable(&d, reach, 4998)
		}
		b.Name = "u"
		want, wantErr := bothBySet(a, b)
		both, err := Both(a, b)
		told[err]++
		if !slices.Equal(both.Brackets, want) || err != wantErr {
			t.Fatalf("Both(%v, %v) = %v, %d; want %v, %d", a, b, both, err, want, wantErr)
		}
		if err != api.OK {
			continue
		}
		checkIs(t, both, api.OK)
		for range 20 {
			base := drawBase(&d, both)
			off := base - left(t, both, base) - (base - left(t, a, base)) - (base - left(t, b, base))
			if off < -1 || off > 1 {
				t.Errorf("the tax of %d by %v and %v is %d off", base, a, b, off)
			}
		}
	}
	for _, err := range []api.Errno{api.OK, api.ErrRange, api.ErrMany} {
		if told[err] < 100 {
			t.Errorf("%d was told %d times only", err, told[err])
		}
	}
}

// TestP2: tables are only read, their spare room too, and what comes out is new.
func TestP2(t *testing.T) {
	room := append(brackets(0, 1, 5, 2), brackets(7, 3, 9, 4)...)
	a := api.Table{Name: "t", Brackets: room[:2]}
	b := api.Table{Name: "u", Brackets: brackets(0, 8, 5, 6, 6, 9)[:2]}
	both, err := Both(a, b)
	if err != api.OK || !slices.Equal(both.Brackets, brackets(0, 9, 5, 8)) {
		t.Fatalf("Both = %v, %d", both, err)
	}
	Tax(a, 9)
	Rate(a, 9)
	Gross(a, 9)
	both.Brackets[0] = api.Bracket{From: 77, Rate: 77}
	_ = append(both.Brackets, api.Bracket{From: 88, Rate: 88})
	if !slices.Equal(room, brackets(0, 1, 5, 2, 7, 3, 9, 4)) || !slices.Equal(b.Brackets[:3], brackets(0, 8, 5, 6, 6, 9)) {
		t.Errorf("what was handed in became %v and %v", room, b.Brackets[:3])
	}
	if again, _ := Both(a, b); !slices.Equal(again.Brackets, brackets(0, 9, 5, 8)) {
		t.Errorf("Both says %v afterwards", again)
	}
}
