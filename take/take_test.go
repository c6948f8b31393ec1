package take

import (
	"math"
	"slices"
	"testing"

	"paycycle/api"
)

// draw makes small numbers, the same each time.
type draw uint64

func (d *draw) below(n int) int {
	*d = *d*6364136223846793005 + 1442695040888963407
	return int(uint64(*d) >> 33 % uint64(n))
}

func claim(want, owed, top, year int) api.Claim {
	return api.Claim{Want: want, Owed: owed, Cap: top, Year: year}
}

// drawClaims wants and owes up to most, with ends of the year, and how far they are, close to each other.
func drawClaims(d *draw, n, most int) []api.Claim {
	var l []api.Claim
	for range n {
		c := claim(d.below(most+1), d.below(most+1), d.below(2*most+2)-1, d.below(2*most+1))
		switch d.below(6) {
		case 0:
			c.Cap = -1
		case 1:
			c.Cap = c.Year + d.below(2)
		case 2:
			c.Want = 0
		case 3:
			c.Owed = 0
		}
		l = append(l, c)
	}
	return l
}

// checkIs asks Check, and with an error All too, which tells the same.
func checkIs(t *testing.T, gross, keep int, l []api.Claim, want api.Errno) {
	t.Helper()
	if got := Check(gross, keep, l); got != want {
		t.Errorf("Check(%d, %d, %.200v) = %d; want %d", gross, keep, l, got, want)
	}
	if want != api.OK {
		allIs(t, gross, keep, l, nil, 0, want)
	}
}

func allIs(t *testing.T, gross, keep int, l []api.Claim, want []api.Taken, net int, wantErr api.Errno) {
	t.Helper()
	if got, n, err := All(gross, keep, l); !slices.Equal(got, want) || n != net || err != wantErr {
		t.Errorf("All(%d, %d, %.200v) = %v, %d, %d; want %v, %d, %d", gross, keep, l, got, n, err, want, net, wantErr)
	}
}

func leastIs(t *testing.T, keep int, l []api.Claim, want int, wantErr api.Errno) {
	t.Helper()
	if got, err := Least(keep, l); got != want || err != wantErr {
		t.Errorf("Least(%d, %.200v) = %d, %d; want %d, %d", keep, l, got, err, want, wantErr)
	}
}

// beyond: what is not from 0 to MaxMoney.
func beyond() []int {
	return []int{math.MinInt, -api.MaxMoney, -1, api.MaxMoney + 1, math.MaxInt}
}

func TestL1Right(t *testing.T) {
	const most = api.MaxMoney
	for _, l := range [][]api.Claim{
		nil, {}, make([]api.Claim, api.MaxClaims), {claim(most, most, most, most)}, {claim(0, 0, -1, 0)}, {claim(0, 0, math.MinInt, most)}, {claim(5, 0, 3, 4)},
		slices.Repeat([]api.Claim{claim(most, most, -1, most)}, api.MaxClaims),
	} {
		for _, gross := range []int{0, 1, most} {
			for _, keep := range []int{0, 1, most} {
				checkIs(t, gross, keep, l, api.OK)
			}
		}
	}
}

func TestL1Many(t *testing.T) {
	for _, l := range [][]api.Claim{make([]api.Claim, api.MaxClaims+1), slices.Repeat([]api.Claim{claim(-1, -1, 0, -1)}, api.MaxClaims+1), make([]api.Claim, 1<<16)} {
		for _, n := range append(beyond(), 0, 5) {
			checkIs(t, n, 0, l, api.ErrMany)
			checkIs(t, 0, n, l, api.ErrMany)
			leastIs(t, n, l, 0, api.ErrMany)
		}
	}
}

func TestL1Range(t *testing.T) {
	fine := []api.Claim{claim(1, 2, -3, 4)}
	for _, n := range beyond() {
		for _, l := range [][]api.Claim{nil, fine} {
			checkIs(t, n, 0, l, api.ErrRange)
			checkIs(t, 0, n, l, api.ErrRange)
			leastIs(t, n, l, 0, api.ErrRange)
		}
		bad := []api.Claim{claim(n, 0, -1, 0), claim(0, n, -1, 0), claim(0, 0, -1, n), claim(n, 5, 0, 0), claim(5, n, 0, 0), claim(5, 5, 0, n)}
		if n > 0 {
			bad = append(bad, claim(0, 0, n, 0), claim(5, 5, n, 5))
		}
		for _, c := range bad {
			for _, l := range [][]api.Claim{{c}, {c, fine[0]}, {fine[0], c}, append(make([]api.Claim, api.MaxClaims-1), c)} {
				checkIs(t, 100, 30, l, api.ErrRange)
				checkIs(t, 0, 0, l, api.ErrRange)
				leastIs(t, 0, l, 0, api.ErrRange)
				leastIs(t, 30, l, 0, api.ErrRange)
			}
		}
	}
	if at, err := Least(0, []api.Claim{claim(0, 0, math.MinInt, 0)}); at != 0 || err != api.OK {
		t.Errorf("of an end below 0: %d, %d", at, err)
	}
}

func TestL2Written(t *testing.T) {
	for _, c := range []struct {
		gross, keep int
		l           []api.Claim
		want        []api.Taken
		net         int
	}{
		{100, 30, []api.Claim{claim(50, 0, -1, 0), claim(40, 0, -1, 0)}, []api.Taken{{Now: 50}, {Now: 20, Owed: 20}}, 30},
		{100, 30, nil, nil, 100}, {30, 100, nil, nil, 30}, {0, 0, nil, nil, 0},
		{30, 100, []api.Claim{claim(5, 6, -1, 0)}, []api.Taken{{Owed: 11}}, 30},
		{100, 100, []api.Claim{claim(5, 6, -1, 0)}, []api.Taken{{Owed: 11}}, 100},
		{101, 100, []api.Claim{claim(0, 6, -1, 0), claim(1, 0, -1, 0)}, []api.Taken{{Before: 1, Owed: 5}, {Owed: 1}}, 100},
		{60, 0, []api.Claim{claim(50, 20, -1, 0), claim(1, 1, -1, 0)}, []api.Taken{{Now: 50, Before: 10, Owed: 10}, {Owed: 2}}, 0},
		{50, 0, []api.Claim{claim(50, 20, -1, 0)}, []api.Taken{{Now: 50, Owed: 20}}, 0},
		{71, 0, []api.Claim{claim(50, 20, -1, 0), claim(1, 1, -1, 0)}, []api.Taken{{Now: 50, Before: 20}, {Now: 1, Owed: 1}}, 0},
		{900, 0, []api.Claim{claim(50, 0, 100, 80), claim(50, 0, 100, 100), claim(50, 3, 100, 130), claim(50, 0, 100, 50), claim(50, 0, 100, 49), claim(50, 0, 100, 51)},
			[]api.Taken{{Now: 20}, {}, {Before: 3}, {Now: 50}, {Now: 50}, {Now: 49}}, 728},
		{900, 0, []api.Claim{claim(50, 7, 0, 0), claim(50, 0, -1, 100), claim(50, 0, math.MinInt, api.MaxMoney), claim(50, 0, 1, 0)}, []api.Taken{{Before: 7}, {Now: 50}, {Now: 50}, {Now: 1}}, 792},
		{api.MaxMoney, 0, []api.Claim{claim(api.MaxMoney, api.MaxMoney, -1, 0), claim(1, 0, -1, 0)}, []api.Taken{{Now: api.MaxMoney, Owed: api.MaxMoney}, {Owed: 1}}, 0},
		{api.MaxMoney, api.MaxMoney, []api.Claim{claim(api.MaxMoney, api.MaxMoney, api.MaxMoney, 0)}, []api.Taken{{Owed: 2 * api.MaxMoney}}, api.MaxMoney},
	} {
		allIs(t, c.gross, c.keep, c.l, c.want, c.net, api.OK)
	}
}

// dueOf gives a claim, unit by unit, what it wants, until the year has come to its end.
func dueOf(c api.Claim) int {
	got := 0
	for got < c.Want && (c.Cap < 0 || c.Year+got < c.Cap) {
		got++
	}
	return got
}

// byUnits hands gross out unit by unit, each to the first who is still to get something.
func byUnits(gross, keep int, l []api.Claim) ([]api.Taken, int) {
	var taken []api.Taken
	for _, c := range l {
		taken = append(taken, api.Taken{Owed: dueOf(c) + c.Owed})
	}
	for gross > keep {
		at := slices.IndexFunc(taken, func(x api.Taken) bool { return x.Owed > 0 })
		if at < 0 {
			break
		}
		if taken[at].Now < dueOf(l[at]) {
			taken[at].Now++
		} else {
			taken[at].Before++
		}
		taken[at].Owed--
		gross--
	}
	return taken, gross
}

func TestL2UnitByUnit(t *testing.T) {
	d := draw(3)
	for range 4000 {
		l := drawClaims(&d, d.below(api.MaxClaims+1), 1+d.below(12))
		gross, keep := d.below(200), d.below(50)
		want, net := byUnits(gross, keep, l)
		allIs(t, gross, keep, l, want, net, api.OK)
	}
}

// TestL2EachSmallOne: one claim, with all small numbers.
func TestL2EachSmallOne(t *testing.T) {
	for n := range 4 * 3 * 5 * 4 {
		l := []api.Claim{claim(n%4, n/4%3, n/12%5-1, n/60), claim(1, 1, -1, 0)}
		for gross := range 8 {
			for keep := range 4 {
				want, net := byUnits(gross, keep, l)
				allIs(t, gross, keep, l, want, net, api.OK)
			}
		}
	}
}

func TestL3Written(t *testing.T) {
	const most = api.MaxMoney
	two := []api.Claim{claim(50, 10, -1, 0), claim(40, 5, 100, 80)}
	leastIs(t, 0, two, 85, api.OK)
	leastIs(t, 30, two, 115, api.OK)
	leastIs(t, most-85, two, most, api.OK)
	leastIs(t, most-84, two, 0, api.ErrRange)
	leastIs(t, most, two, 0, api.ErrRange)
	leastIs(t, 0, []api.Claim{claim(most, 0, -1, 0)}, most, api.OK)
	leastIs(t, 0, []api.Claim{claim(0, most, -1, 0)}, most, api.OK)
	leastIs(t, 0, []api.Claim{claim(most, 1, -1, 0)}, 0, api.ErrRange)
	leastIs(t, 1, []api.Claim{claim(most, 0, -1, 0)}, 0, api.ErrRange)
	leastIs(t, 0, slices.Repeat([]api.Claim{claim(most, most, -1, most)}, api.MaxClaims), 0, api.ErrRange)
	leastIs(t, most, slices.Repeat([]api.Claim{claim(most, most, most, 0)}, api.MaxClaims), 0, api.ErrRange)
	leastIs(t, 7, []api.Claim{claim(most, 0, most, most-1)}, 8, api.OK)
}

// TestL3Nothing: of whom nobody is due or was owed anything, all get all of no gross.
func TestL3Nothing(t *testing.T) {
	for _, l := range [][]api.Claim{nil, {}, {claim(0, 0, -1, 0)}, {claim(5, 0, 0, 0)}, {claim(5, 0, 3, 3), claim(5, 0, 3, 4)}, make([]api.Claim, api.MaxClaims)} {
		for _, keep := range []int{0, 1, 100, api.MaxMoney} {
			leastIs(t, keep, l, 0, api.OK)
		}
	}
}

func owesNothing(t *testing.T, gross, keep int, l []api.Claim) bool {
	t.Helper()
	taken, _, err := All(gross, keep, l)
	if err != api.OK {
		t.Fatalf("All(%d, %d, %v): %d", gross, keep, l, err)
	}
	return !slices.ContainsFunc(taken, func(x api.Taken) bool { return x.Owed > 0 })
}

// TestL3FromBelow goes up from no gross until nobody is owed anything.
func TestL3FromBelow(t *testing.T) {
	d := draw(5)
	for range 2000 {
		l := drawClaims(&d, d.below(6), 1+d.below(9))
		keep := d.below(40)
		gross := 0
		for !owesNothing(t, gross, keep, l) {
			gross++
		}
		leastIs(t, keep, l, gross, api.OK)
	}
}

// followsL4 holds one answer of All against what chapter 12 says of all of them.
func followsL4(t *testing.T, gross, keep int, l []api.Claim, taken []api.Taken, net int) {
	t.Helper()
	got, allGot := net, true
	for i, x := range taken {
		if x.Now < 0 || x.Before < 0 || x.Owed < 0 || x.Now > l[i].Want || x.Before > l[i].Owed {
			t.Fatalf("All(%d, %d, %v): %v", gross, keep, l, taken)
		}
		if x.Now+x.Before > 0 && !allGot {
			t.Fatalf("All(%d, %d, %v): %v: somebody gets something behind one who is owed", gross, keep, l, taken)
		}
		allGot = allGot && x.Owed == 0
		got += x.Now + x.Before
	}
	if got != gross || net < min(keep, gross) || !allGot && net != min(keep, gross) {
		t.Fatalf("All(%d, %d, %v): %v, %d", gross, keep, l, taken, net)
	}
}

func TestL4(t *testing.T) {
	d := draw(7)
	for range 4000 {
		most := []int{1, 9, 5000, 1 << 30}[d.below(4)]
		l := drawClaims(&d, 1+d.below(api.MaxClaims), most)
		gross, keep := d.below(30*most+1), d.below(3*most+1)
		taken, net, err := All(gross, keep, l)
		if err != api.OK || len(taken) != len(l) {
			t.Fatalf("All(%d, %d, %v): %v, %d", gross, keep, l, taken, err)
		}
		followsL4(t, gross, keep, l, taken, net)
		more, moreNet, _ := All(gross+1+d.below(most), keep, l)
		for i, x := range more {
			if x.Now < taken[i].Now || x.Before < taken[i].Before || x.Owed > taken[i].Owed || moreNet < net {
				t.Fatalf("more than %d gives %v, %d; it gave %v, %d", gross, more, moreNet, taken, net)
			}
		}
		least, err := Least(keep, l)
		if err != api.OK || !owesNothing(t, least, keep, l) || least > 0 && owesNothing(t, least-1, keep, l) {
			t.Fatalf("Least(%d, %v) = %d, %d", keep, l, least, err)
		}
	}
}

// TestP1: whatever is handed in, beside an error there is nothing.
func TestP1(t *testing.T) {
	d := draw(11)
	edges := []int{math.MinInt, math.MinInt + 1, -api.MaxMoney, -1, 0, 0, 0, 1, 7, 100, api.MaxMoney - 1, api.MaxMoney, api.MaxMoney + 1, math.MaxInt}
	for range 30000 {
		reach := edges
		if d.below(3) > 0 {
			reach = edges[4:12]
		}
		some := func() int { return reach[d.below(len(reach))] }
		l := make([]api.Claim, d.below(4))
		for i := range l {
			l[i] = claim(some(), some(), some(), some())
		}
		gross, keep := some(), some()
		taken, net, err := All(gross, keep, l)
		if err != Check(gross, keep, l) || err != api.OK && (taken != nil || net != 0) {
			t.Fatalf("All(%d, %d, %v) = %v, %d, %d", gross, keep, l, taken, net, err)
		}
		if err == api.OK {
			followsL4(t, gross, keep, l, taken, net)
		}
		if least, err := Least(keep, l); err != api.OK && (least != 0 || err != api.ErrRange) {
			t.Fatalf("Least(%d, %v) = %d, %d", keep, l, least, err)
		}
	}
}

// TestP2: claims are only read, their spare room too, and what comes out is new.
func TestP2(t *testing.T) {
	room := []api.Claim{claim(5, 1, -1, 0), claim(6, 2, 9, 5), claim(7, 7, 7, 7)}
	before := slices.Clone(room)
	want := []api.Taken{{Now: 5, Before: 1}, {Now: 2, Owed: 4}}
	for range 2 {
		allIs(t, 10, 2, room[:2], want, 2, api.OK)
		leastIs(t, 2, room[:2], 14, api.OK)
		taken, _, _ := All(10, 2, room[:2])
		taken[0] = api.Taken{Now: 99}
		_ = append(taken, api.Taken{Now: 99})
	}
	if !slices.Equal(room, before) {
		t.Errorf("claims became %v", room)
	}
}
