package total

import (
	"math"
	"slices"
	"testing"

	"paycycle/api"
)

func TestM1Right(t *testing.T) {
	const most = api.MaxMoney
	for _, l := range [][]api.Total{
		nil, {}, {of(1, "a", 2000, 1)}, {of(999, "abcdefgh", 2199, -1)}, {of(1, "zzzzzzzz", 2000, most)}, {of(1, "ifs", 2000, -most)},
		{of(1, "a", 2000, 1), of(1, "b", 2000, 1)}, {of(1, "a", 2000, 1), of(1, "aa", 2000, 1), of(1, "ab", 2000, 1), of(1, "b", 2000, 1)},
		{of(1, "b", 2000, 1), of(1, "a", 2001, 1)}, {of(1, "b", 2199, 1), of(2, "a", 2000, 1)}, {of(9, "a", 2000, 1), of(10, "a", 2000, 1)},
		row(1, api.MaxTotals), row(api.MaxPersons-api.MaxTotals+1, api.MaxTotals),
	} {
		if err := Check(l); err != api.OK {
			t.Errorf("Check(%s) = %d", short(l), err)
		}
	}
}

func TestM1Many(t *testing.T) {
	for _, l := range [][]api.Total{row(1, api.MaxTotals+1), make([]api.Total, api.MaxTotals+1), make([]api.Total, 1<<16), slices.Repeat([]api.Total{of(1, "", 2000, 1)}, api.MaxTotals+1)} {
		refused(t, l, api.ErrMany)
		gatherIs(t, l, nil, api.ErrMany)
	}
}

func TestM1Range(t *testing.T) {
	fine := of(5, "m", 2050, 7)
	for _, bad := range append(outOfRange(), of(1, "a", 2000, 0), of(999, "z", 2199, 0)) {
		for _, l := range [][]api.Total{{bad}, {bad, fine}, {fine, bad}, append(row(1, api.MaxTotals-1), bad)} {
			refused(t, l, api.ErrRange)
		}
		noName := bad
		noName.Name = ""
		refused(t, []api.Total{noName}, api.ErrRange)
	}
}

func TestM1Form(t *testing.T) {
	fine := of(5, "m", 2050, 7)
	for _, name := range noNames() {
		bad := of(6, name, 2000, 1)
		for _, l := range [][]api.Total{{bad}, {bad, fine}, {fine, bad}, append(row(1, api.MaxTotals-1), bad)} {
			refused(t, l, api.ErrForm)
		}
	}
}

func TestM1State(t *testing.T) {
	for _, l := range [][]api.Total{
		{of(1, "a", 2000, 1), of(1, "a", 2000, 1)}, {of(1, "a", 2000, 1), of(1, "a", 2000, 2)}, {of(1, "a", 2000, 2), of(1, "a", 2000, 1)},
		{of(1, "b", 2000, 1), of(1, "a", 2000, 2)}, {of(1, "aa", 2000, 1), of(1, "a", 2000, 2)},
		{of(1, "a", 2001, 1), of(1, "b", 2000, 2)}, {of(2, "a", 2000, 1), of(1, "b", 2001, 2)}, {of(10, "a", 2000, 1), of(9, "b", 2001, 2)},
		{of(1, "a", 2000, 1), of(1, "b", 2000, 1), of(1, "b", 2000, 1)}, {of(1, "a", 2000, 1), of(1, "c", 2000, 1), of(1, "b", 2000, 1)}, {of(1, "b", 2000, 1), of(1, "a", 2000, 1), of(1, "c", 2000, 1)},
		append(row(1, api.MaxTotals-1), of(1, "a", 2000, 1)),
	} {
		refused(t, l, api.ErrState)
	}
}

func TestM1ErrorsInOrder(t *testing.T) {
	fine, noName, noPerson, nought := of(5, "m", 2050, 7), of(5, "M", 2050, 7), of(0, "m", 2050, 7), of(5, "m", 2050, 0)
	for _, c := range []struct {
		l    []api.Total
		want api.Errno
	}{
		{[]api.Total{noName, noPerson}, api.ErrForm}, {[]api.Total{noPerson, noName}, api.ErrRange},
		{[]api.Total{noName, nought}, api.ErrForm}, {[]api.Total{nought, noName}, api.ErrRange},
		{[]api.Total{fine, fine, noName}, api.ErrForm}, {[]api.Total{fine, fine, noPerson}, api.ErrRange}, {[]api.Total{fine, fine, nought}, api.ErrRange},
	} {
		refused(t, c.l, c.want)
	}
	addIs(t, []api.Total{noPerson}, []api.Total{noName}, nil, api.ErrRange)
	addIs(t, []api.Total{fine, fine}, []api.Total{noName}, nil, api.ErrState)
	lessIs(t, []api.Total{noName}, []api.Total{noPerson}, nil, api.ErrForm)
	lessIs(t, []api.Total{fine, fine}, make([]api.Total, api.MaxTotals+1), nil, api.ErrState)
}

func TestM2Written(t *testing.T) {
	l := []api.Total{of(1, "a", 2000, 5), of(1, "b", 2000, -5), of(1, "a", 2001, 7), of(2, "a", 2000, 1)}
	more := []api.Total{of(1, "a", 2000, -5), of(1, "ab", 2000, 3), of(1, "b", 2000, -1), of(3, "z", 2199, 9)}
	addIs(t, l, more, []api.Total{of(1, "ab", 2000, 3), of(1, "b", 2000, -6), of(1, "a", 2001, 7), of(2, "a", 2000, 1), of(3, "z", 2199, 9)}, api.OK)
	lessIs(t, l, more, []api.Total{of(1, "a", 2000, 10), of(1, "ab", 2000, -3), of(1, "b", 2000, -4), of(1, "a", 2001, 7), of(2, "a", 2000, 1), of(3, "z", 2199, -9)}, api.OK)
	for _, none := range [][]api.Total{nil, {}} {
		addIs(t, none, nil, nil, api.OK)
		addIs(t, l, none, l, api.OK)
		addIs(t, none, l, l, api.OK)
		lessIs(t, l, none, l, api.OK)
		lessIs(t, none, l, turned(l), api.OK)
	}
	lessIs(t, l, l, nil, api.OK)
	addIs(t, l, turned(l), nil, api.OK)
}

func TestM2OneByOne(t *testing.T) {
	var d draw
	for n := range 2000 {
		l, more := drawList(&d, n%50, 3), drawList(&d, n/7%50, 3)
		sum, _ := oneByOne(l, more)
		addIs(t, l, more, sum, api.OK)
		rest, _ := oneByOne(l, turned(more))
		lessIs(t, l, more, rest, api.OK)
	}
}

func TestM2OfTheGreatest(t *testing.T) {
	const most = api.MaxMoney
	one := func(n int) []api.Total { return []api.Total{of(7, "a", 2000, n)} }
	for _, c := range []struct{ a, b int }{{most, 1}, {most, most}, {most - 1, 1}, {1, most}, {most / 2, most / 2}, {most/2 + 1, most / 2}, {most, -1}, {1, -1}, {most, -most}, {-1, 1 - most}} {
		for _, sign := range []int{1, -1} {
			a, b := sign*c.a, sign*c.b
			sum := a + b
			want, wantErr := one(sum), api.OK
			if sum == 0 {
				want = nil
			}
			if sum > most || sum < -most {
				want, wantErr = nil, api.ErrRange
			}
			addIs(t, one(a), one(b), want, wantErr)
			lessIs(t, one(a), one(-b), want, wantErr)
		}
	}
	first, last := of(1, "a", 2000, 1), of(999, "a", 2000, 1)
	addIs(t, append(one(most), last), append([]api.Total{first}, one(1)...), nil, api.ErrRange)
	addIs(t, one(most), []api.Total{of(7, "b", 2000, most)}, []api.Total{of(7, "a", 2000, most), of(7, "b", 2000, most)}, api.OK)
}

func TestM2Many(t *testing.T) {
	l := row(1, api.MaxTotals)
	next := []api.Total{of(api.MaxTotals+1, "a", 2000, 1)}
	addIs(t, l, next, nil, api.ErrMany)
	addIs(t, next, l, nil, api.ErrMany)
	lessIs(t, l, next, nil, api.ErrMany)
	lessIs(t, next, l, nil, api.ErrMany)
	addIs(t, l[:api.MaxTotals-1], next, append(row(1, api.MaxTotals-1), next[0]), api.OK)
	addIs(t, l[:200], l[200:], l, api.OK)
	// what comes to 0 is none of them
	swapped := append(row(2, api.MaxTotals-1), next[0])
	lessIs(t, l, []api.Total{l[0], of(next[0].Person, "a", 2000, -1)}, swapped, api.OK)
	addIs(t, l, []api.Total{of(1, "a", 2000, -1), next[0]}, swapped, api.OK)
	lessIs(t, l, row(1, api.MaxTotals), nil, api.OK)
	// what is no money is told ahead of what are too many
	addIs(t, l, []api.Total{of(5, "a", 2000, api.MaxMoney), next[0]}, nil, api.ErrRange)
	lessIs(t, l, []api.Total{of(5, "a", 2000, -api.MaxMoney), next[0]}, nil, api.ErrRange)
}

func TestM3Of(t *testing.T) {
	l := []api.Total{of(1, "a", 2000, 5), of(1, "b", 2000, -5), of(1, "a", 2001, 7), of(2, "a", 2000, 1), of(2, "c", 2199, api.MaxMoney), of(999, "z", 2000, 3)}
	ofIs(t, l, 1, 2000, []api.Amount{{Name: "a", Money: 5}, {Name: "b", Money: -5}}, api.OK)
	ofIs(t, l, 1, 2001, []api.Amount{{Name: "a", Money: 7}}, api.OK)
	ofIs(t, l, 2, 2000, []api.Amount{{Name: "a", Money: 1}}, api.OK)
	ofIs(t, l, 2, 2199, []api.Amount{{Name: "c", Money: api.MaxMoney}}, api.OK)
	ofIs(t, l, 999, 2000, []api.Amount{{Name: "z", Money: 3}}, api.OK)
	ofIs(t, l, 2, 2001, nil, api.OK)
	ofIs(t, l, 3, 2000, nil, api.OK)
	ofIs(t, nil, 1, 2000, nil, api.OK)
	for _, n := range []int{math.MinInt, -1, 0, api.MaxPersons + 1, math.MaxInt} {
		ofIs(t, l, n, 2000, nil, api.ErrRange)
		ofIs(t, nil, n, 2000, nil, api.ErrRange)
	}
	for _, n := range []int{math.MinInt, 0, 1999, 2200, math.MaxInt} {
		ofIs(t, l, 1, n, nil, api.ErrRange)
		ofIs(t, nil, 1, n, nil, api.ErrRange)
	}
}

func TestM3Sum(t *testing.T) {
	const most = api.MaxMoney
	l := []api.Total{of(1, "a", 2000, 5), of(1, "aa", 2000, 100), of(1, "b", 2000, -5), of(1, "a", 2001, 7), of(2, "a", 2000, 1), of(2, "b", 2199, most), of(999, "a", 2000, -9)}
	sumIs(t, l, "a", 2000, -3, api.OK)
	sumIs(t, l, "aa", 2000, 100, api.OK)
	sumIs(t, l, "b", 2000, -5, api.OK)
	sumIs(t, l, "a", 2001, 7, api.OK)
	sumIs(t, l, "b", 2199, most, api.OK)
	sumIs(t, l, "a", 2002, 0, api.OK)
	sumIs(t, l, "c", 2000, 0, api.OK)
	sumIs(t, nil, "a", 2000, 0, api.OK)
	for _, name := range noNames() {
		sumIs(t, l, name, 2000, 0, api.ErrForm)
		sumIs(t, nil, name, 2000, 0, api.ErrForm)
		sumIs(t, l, name, 1999, 0, api.ErrForm)
	}
	for _, n := range []int{math.MinInt, 0, 1999, 2200, math.MaxInt} {
		sumIs(t, l, "a", n, 0, api.ErrRange)
		sumIs(t, nil, "a", n, 0, api.ErrRange)
	}
	all := row(1, api.MaxTotals)
	for i := range all {
		all[i].Money = most
	}
	sumIs(t, all, "a", 2000, api.MaxTotals*most, api.OK)
	sumIs(t, turned(all), "a", 2000, -api.MaxTotals*most, api.OK)
}

func TestM3OneByOne(t *testing.T) {
	var d draw
	for n := range 300 {
		l := drawList(&d, n%60, 3)
		for _, year := range append([]int{2002}, fewYears...) {
			for _, person := range append([]int{12}, fewPersons...) {
				var want []api.Amount
				for _, x := range l {
					if x.Person == person && x.Year == year {
						want = append(want, api.Amount{Name: x.Name, Money: x.Money})
					}
				}
				ofIs(t, l, person, year, want, api.OK)
			}
			for _, name := range append([]string{"abc"}, fewNames...) {
				want := 0
				for _, person := range fewPersons {
					amounts, _ := Of(l, person, year)
					for _, a := range amounts {
						if a.Name == name {
							want += a.Money
						}
					}
				}
				sumIs(t, l, name, year, want, api.OK)
			}
		}
	}
}

func TestM4Written(t *testing.T) {
	gatherIs(t, nil, nil, api.OK)
	gatherIs(t, []api.Total{}, nil, api.OK)
	gatherIs(t, []api.Total{of(1, "a", 2000, 0)}, nil, api.OK)
	gatherIs(t, []api.Total{of(1, "a", 2000, 5), of(1, "a", 2000, -5)}, nil, api.OK)
	gatherIs(t, []api.Total{of(2, "a", 2000, 1), of(1, "b", 2000, 2), of(1, "a", 2001, 3), of(1, "a", 2000, 4), of(1, "b", 2000, 5), of(1, "aa", 2000, 0), of(10, "a", 2000, 6), of(9, "a", 2000, 7)},
		[]api.Total{of(1, "a", 2000, 4), of(1, "b", 2000, 7), of(1, "a", 2001, 3), of(2, "a", 2000, 1), of(9, "a", 2000, 7), of(10, "a", 2000, 6)}, api.OK)
	gatherIs(t, slices.Repeat([]api.Total{of(1, "a", 2000, 3)}, api.MaxTotals), []api.Total{of(1, "a", 2000, 3*api.MaxTotals)}, api.OK)
	back := row(1, api.MaxTotals)
	slices.Reverse(back)
	gatherIs(t, back, row(1, api.MaxTotals), api.OK)
}

func TestM4OneByOne(t *testing.T) {
	var d draw
	for n := range 1500 {
		l := drawTotals(&d, n%100, 2+n%3)
		want, _ := oneByOne(l)
		gatherIs(t, l, want, api.OK)
	}
	for n := range 300 {
		l := drawTotals(&d, n%30, api.MaxMoney)
		want, ok := oneByOne(l)
		wantErr := api.OK
		if !ok {
			wantErr = api.ErrRange
		}
		gatherIs(t, l, want, wantErr)
	}
}

func TestM4Errors(t *testing.T) {
	fine := of(5, "m", 2050, 7)
	for _, bad := range outOfRange() {
		noName := bad
		noName.Name = ""
		for _, l := range [][]api.Total{{bad}, {bad, fine}, {fine, bad}, {fine, fine, bad}, {noName}, append(row(1, api.MaxTotals-1), bad)} {
			gatherIs(t, l, nil, api.ErrRange)
		}
	}
	for _, name := range noNames() {
		for _, n := range []int{1, 0} {
			bad := of(6, name, 2000, n)
			for _, l := range [][]api.Total{{bad}, {bad, fine}, {fine, bad}, {fine, fine, bad}} {
				gatherIs(t, l, nil, api.ErrForm)
			}
		}
	}
	gatherIs(t, []api.Total{of(5, "M", 2050, 7), of(0, "m", 2050, 7)}, nil, api.ErrForm)
	gatherIs(t, []api.Total{of(0, "m", 2050, 7), of(5, "M", 2050, 7)}, nil, api.ErrRange)
	gatherIs(t, []api.Total{of(5, "m", 2050, api.MaxMoney), of(5, "m", 2050, 1), of(5, "M", 2050, 7)}, nil, api.ErrForm)
}

func TestM4OnlyTheEndMustBeMoney(t *testing.T) {
	const most = api.MaxMoney
	amounts := func(numbers ...int) []api.Total {
		var l []api.Total
		for _, n := range numbers {
			l = append(l, of(3, "a", 2000, n))
		}
		return l
	}
	gatherIs(t, amounts(most, 1), nil, api.ErrRange)
	gatherIs(t, amounts(-most, 0, -1), nil, api.ErrRange)
	gatherIs(t, append(amounts(most, 1), of(2, "a", 2000, 1)), nil, api.ErrRange)
	gatherIs(t, amounts(most, 1, -1), amounts(most), api.OK)
	gatherIs(t, amounts(most, most, most, -most, -most, -most), nil, api.OK)
	gatherIs(t, amounts(-most, -most, 5, most), amounts(5-most), api.OK)
	gatherIs(t, slices.Repeat(amounts(most), api.MaxTotals), nil, api.ErrRange)
	gatherIs(t, slices.Repeat(amounts(-most), api.MaxTotals), nil, api.ErrRange)
}

func TestM5AnyOrder(t *testing.T) {
	var d draw
	for n := range 600 {
		a, b, c := drawList(&d, n%40, 3), drawList(&d, n/3%40, 3), drawList(&d, n/5%40, 3)
		ab, _ := Add(a, b)
		bc, _ := Add(b, c)
		abc, _ := Add(ab, c)
		addIs(t, b, a, ab, api.OK)
		addIs(t, a, bc, abc, api.OK)
		gatherIs(t, slices.Concat(c, a, b), abc, api.OK)
		lessIs(t, ab, b, a, api.OK)
		lessIs(t, ab, a, b, api.OK)
		rest, _ := Less(a, b)
		addIs(t, rest, b, a, api.OK)
		if err := Check(ab); err != api.OK {
			t.Errorf("Check of what was added, %v: %d", ab, err)
		}
		for _, year := range fewYears {
			for _, name := range fewNames {
				x, _ := Sum(a, name, year)
				y, _ := Sum(b, name, year)
				sumIs(t, ab, name, year, x+y, api.OK)
				sumIs(t, rest, name, year, x-y, api.OK)
			}
		}
	}
}

func TestP2InputsAreOnlyRead(t *testing.T) {
	room := []api.Total{of(2, "b", 2000, 1), of(3, "a", 2000, 2), of(3, "b", 2000, 0), of(1, "a", 2000, 4), of(1, "a", 2000, 5)}
	before := slices.Clone(room)
	l := room[:2]
	sum, _ := Add(l, l)
	rest, _ := Less(l, l[:1])
	same, _ := Add(l, nil)
	kept, _ := Less(l, nil)
	turnedRound, _ := Less(nil, l)
	gathered, _ := Gather(room)
	alone, _ := Gather(l)
	amounts, _ := Of(l, 3, 2000)
	Sum(l, "a", 2000)
	Check(l)
	if !slices.Equal(room, before) {
		t.Errorf("what was handed in is %v now", room)
	}
	for _, answer := range [][]api.Total{sum, rest, same, kept, turnedRound, gathered, alone} {
		for i := range answer[:cap(answer)] {
			answer[:cap(answer)][i] = of(9, "z", 2009, 9)
		}
	}
	for i := range amounts[:cap(amounts)] {
		amounts[:cap(amounts)][i] = api.Amount{Name: "z"}
	}
	if !slices.Equal(room, before) {
		t.Errorf("a change of an answer is seen in what was handed in: %v", room)
	}
	addIs(t, l, nil, before[:2], api.OK)
}

func TestP3TheSameEachTime(t *testing.T) {
	var d draw
	l := drawTotals(&d, 200, 5)
	want, _ := oneByOne(l)
	for range 50 {
		gatherIs(t, l, want, api.OK)
		addIs(t, want, nil, want, api.OK)
	}
}
