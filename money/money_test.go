package money

import (
	"math"
	"math/big"
	"slices"
	"strconv"
	"strings"
	"testing"

	"paycycle/api"
)

var allWays = []int{api.RoundDown, api.RoundUp, api.RoundFloor, api.RoundCeiling, api.RoundHalfUp, api.RoundHalfEven}

// roundByFloor is a second way to the same number: it begins below, and asks how far the fraction lies above that.
func roundByFloor(n, d *big.Int, way int) *big.Int {
	floor, rest := new(big.Int).DivMod(n, d, new(big.Int))
	if rest.Sign() == 0 {
		return floor
	}
	half := new(big.Int).Lsh(rest, 1).Cmp(d)
	up := false
	switch way {
	case api.RoundDown:
		up = n.Sign() < 0
	case api.RoundUp:
		up = n.Sign() > 0
	case api.RoundCeiling:
		up = true
	case api.RoundHalfUp:
		up = half > 0 || half == 0 && n.Sign() > 0
	case api.RoundHalfEven:
		up = half > 0 || half == 0 && floor.Bit(0) == 1
	}
	if up {
		return floor.Add(floor, big.NewInt(1))
	}
	return floor
}

var numerators = []int{
	0, 1, 2, 3, 4, 5, 6, 7, 8, 9, 10, 14, 15, 16, 25, 35, 99, 499999, 500000, 500001, 999999, 1000000, 1500000, 2500000,
	123456789012345678, api.MaxWhole - 500000, api.MaxWhole - 1, api.MaxWhole,
}

var denominators = []int{1, 2, 3, 4, 7, 10, 100, 9999, 10000, 999999, api.MaxRate}

func TestA1RoundEveryWay(t *testing.T) {
	for _, a := range numerators {
		for _, n := range []int{a, -a} {
			for _, d := range denominators {
				for _, way := range allWays {
					want := int(roundByFloor(big.NewInt(int64(n)), big.NewInt(int64(d)), way).Int64())
					if got, err := Round(n, d, way); got != want || err != api.OK {
						t.Errorf("Round(%d, %d, %d) = %d, %d; want %d", n, d, way, got, err, want)
					}
				}
			}
		}
	}
}

func TestA1RoundWritten(t *testing.T) {
	for _, c := range []struct {
		n, d int
		want [6]int
	}{
		{5, 2, [6]int{2, 3, 2, 3, 3, 2}},
		{-5, 2, [6]int{-2, -3, -3, -2, -3, -2}},
		{7, 2, [6]int{3, 4, 3, 4, 4, 4}},
		{-7, 2, [6]int{-3, -4, -4, -3, -4, -4}},
		{1, 3, [6]int{0, 1, 0, 1, 0, 0}},
		{-2, 3, [6]int{0, -1, -1, 0, -1, -1}},
		{1, 2, [6]int{0, 1, 0, 1, 1, 0}},
		{-1, 2, [6]int{0, -1, -1, 0, -1, 0}},
		{6, 3, [6]int{2, 2, 2, 2, 2, 2}},
		{-6, 3, [6]int{-2, -2, -2, -2, -2, -2}},
	} {
		for i, way := range allWays {
			if got, err := Round(c.n, c.d, way); got != c.want[i] || err != api.OK {
				t.Errorf("Round(%d, %d, %d) = %d, %d; want %d", c.n, c.d, way, got, err, c.want[i])
			}
		}
	}
}

func TestA1RoundErrors(t *testing.T) {
	for _, c := range []struct {
		n, d, way int
		want      api.Errno
	}{
		{1, 1, 0, api.ErrKind},
		{1, 1, 7, api.ErrKind},
		{1, 1, -1, api.ErrKind},
		{1, 1, math.MaxInt, api.ErrKind},
		{1, 1, math.MinInt, api.ErrKind},
		{1, 0, 0, api.ErrKind},
		{math.MinInt, -1, 7, api.ErrKind},
		{1, 0, 1, api.ErrRange},
		{1, -1, 1, api.ErrRange},
		{math.MinInt, -1, 1, api.ErrRange},
		{1, math.MinInt, 6, api.ErrRange},
		{1, api.MaxRate + 1, 1, api.ErrRange},
		{1, math.MaxInt, 6, api.ErrRange},
		{api.MaxWhole + 1, 1, 1, api.ErrRange},
		{-api.MaxWhole - 1, 1, 1, api.ErrRange},
		{math.MaxInt, 2, 2, api.ErrRange},
		{math.MinInt, 2, 2, api.ErrRange},
	} {
		if got, err := Round(c.n, c.d, c.way); got != 0 || err != c.want {
			t.Errorf("Round(%d, %d, %d) = %d, %d; want 0, %d", c.n, c.d, c.way, got, err, c.want)
		}
	}
}

func TestA1Part(t *testing.T) {
	amounts := []int{0, 1, 2, 5, 50, 99, 100, 12345, 5000, 15000, 999999999999, api.MaxMoney}
	rates := []int{0, 1, 2, 250, 1234, 4999, 5000, 5001, 9999, 10000, 10001, 999999, api.MaxRate}
	for _, a := range amounts {
		for _, amount := range []int{a, -a} {
			for _, rate := range rates {
				for _, way := range allWays {
					product := new(big.Int).Mul(big.NewInt(int64(amount)), big.NewInt(int64(rate)))
					want := int(roundByFloor(product, big.NewInt(10000), way).Int64())
					if got, err := Part(amount, rate, way); got != want || err != api.OK {
						t.Errorf("Part(%d, %d, %d) = %d, %d; want %d", amount, rate, way, got, err, want)
					}
				}
			}
		}
	}
}

// A part may be more than money: the chapter names no error for it.
func TestA1PartBeyondMoney(t *testing.T) {
	if got, err := Part(api.MaxMoney, api.MaxRate, api.RoundDown); got != 100*api.MaxMoney || err != api.OK {
		t.Errorf("greatest part: %d, %d", got, err)
	}
	if got, err := Part(-api.MaxMoney, api.MaxRate, api.RoundDown); got != -100*api.MaxMoney || err != api.OK {
		t.Errorf("least part: %d, %d", got, err)
	}
}

func TestA1PartErrors(t *testing.T) {
	for _, c := range []struct {
		amount, rate, way int
		want              api.Errno
	}{
		{1, 1, 0, api.ErrKind},
		{1, 1, 7, api.ErrKind},
		{math.MaxInt, math.MaxInt, math.MaxInt, api.ErrKind},
		{api.MaxMoney + 1, 1, 1, api.ErrRange},
		{-api.MaxMoney - 1, 1, 1, api.ErrRange},
		{math.MinInt, 0, 1, api.ErrRange},
		{math.MaxInt, 0, 1, api.ErrRange},
		{1, -1, 1, api.ErrRange},
		{1, api.MaxRate + 1, 1, api.ErrRange},
		{0, math.MinInt, 6, api.ErrRange},
	} {
		if got, err := Part(c.amount, c.rate, c.way); got != 0 || err != c.want {
			t.Errorf("Part(%d, %d, %d) = %d, %d; want 0, %d", c.amount, c.rate, c.way, got, err, c.want)
		}
	}
}

func repeated(n, times int) []int {
	return slices.Repeat([]int{n}, times)
}

func TestA2ShareWritten(t *testing.T) {
	twenty := append(repeated(1, 7), repeated(0, 13)...)
	for _, c := range []struct {
		total         int
		weights, want []int
	}{
		{10, []int{1, 1, 1}, []int{4, 3, 3}},
		{11, []int{1, 1, 1}, []int{4, 4, 3}},
		{0, []int{1, 2}, []int{0, 0}},
		{1, []int{1, 2, 3}, []int{0, 0, 1}},
		{100, []int{1, 2, 3}, []int{17, 33, 50}},
		{5, []int{0, 1, 0, 1}, []int{0, 3, 0, 2}},
		{1, []int{0, 1, 1}, []int{0, 1, 0}},
		{7, repeated(1, 20), twenty},
		{api.MaxMoney, []int{0, 7, 0}, []int{0, api.MaxMoney, 0}},
		{api.MaxMoney, []int{api.MaxRate, 1}, []int{999999000001, 999999}},
		{api.MaxMoney, repeated(api.MaxRate, 20), repeated(api.MaxMoney/20, 20)},
		{10, []int{3, 3, 2, 2, 2, 2}, []int{2, 2, 2, 2, 1, 1}},
	} {
		if got, err := Share(c.total, c.weights); !slices.Equal(got, c.want) || err != api.OK {
			t.Errorf("Share(%d, %v) = %v, %d; want %v", c.total, c.weights, got, err, c.want)
		}
	}
}

func TestA2ShareErrors(t *testing.T) {
	for _, c := range []struct {
		total   int
		weights []int
		want    api.Errno
	}{
		{1, nil, api.ErrMany},
		{1, []int{}, api.ErrMany},
		{-1, nil, api.ErrMany},
		{1, repeated(1, 21), api.ErrMany},
		{-1, repeated(-1, 21), api.ErrMany},
		{-1, []int{1}, api.ErrRange},
		{math.MinInt, []int{1}, api.ErrRange},
		{api.MaxMoney + 1, []int{1}, api.ErrRange},
		{math.MaxInt, []int{1}, api.ErrRange},
		{1, []int{1, -1}, api.ErrRange},
		{1, []int{0, 0, api.MaxRate + 1}, api.ErrRange},
		{1, []int{math.MaxInt, math.MinInt, 1}, api.ErrRange},
		{api.MaxMoney + 1, []int{0}, api.ErrRange},
		{0, []int{0}, api.ErrNone},
		{api.MaxMoney, repeated(0, 20), api.ErrNone},
	} {
		if got, err := Share(c.total, c.weights); len(got) != 0 || err != c.want {
			t.Errorf("Share(%d, %v) = %v, %d; want none, %d", c.total, c.weights, got, err, c.want)
		}
	}
}

func TestA3Print(t *testing.T) {
	for amount, want := range map[int]string{
		0: "0.00", 1: "0.01", 9: "0.09", 10: "0.10", 99: "0.99", 100: "1.00", 101: "1.01", 110: "1.10", 12345: "123.45",
		-1: "-0.01", -10: "-0.10", -99: "-0.99", -100: "-1.00", -105: "-1.05",
		api.MaxMoney: "10000000000.00", -api.MaxMoney: "-10000000000.00", api.MaxMoney - 1: "9999999999.99",
	} {
		if got, err := Print(amount); got != want || err != api.OK {
			t.Errorf("Print(%d) = %q, %d; want %q", amount, got, err, want)
		}
	}
	for _, amount := range []int{api.MaxMoney + 1, -api.MaxMoney - 1, math.MaxInt, math.MinInt} {
		if got, err := Print(amount); got != "" || err != api.ErrRange {
			t.Errorf("Print(%d) = %q, %d", amount, got, err)
		}
	}
}

func TestA3ReadFaults(t *testing.T) {
	long := strings.Repeat("9", 100000)
	form := func(at int) api.Fault { return api.Fault{Err: api.ErrForm, At: at} }
	outside := api.Fault{Err: api.ErrRange}
	for _, c := range []struct {
		text string
		want api.Fault
	}{
		{"", form(0)}, {"-", form(1)}, {"0", form(1)}, {"-0", form(2)}, {"1", form(1)}, {"123", form(3)},
		{"0.", form(2)}, {"0.0", form(3)}, {"12.3", form(4)}, {"-12.3", form(5)},
		{"-0.00", form(0)}, {"-0.001", form(5)}, {"-0.0x", form(4)},
		{"00.00", form(1)}, {"01.00", form(1)}, {"-00.01", form(2)}, {"-01.00", form(2)},
		{"--1.00", form(1)}, {"+1.00", form(0)}, {" 1.00", form(0)}, {".50", form(0)}, {"-.50", form(1)},
		{"x", form(0)}, {"1x", form(1)}, {"1.x", form(2)}, {"1.0x", form(3)}, {"1.00x", form(4)},
		{"1.000", form(4)}, {"1.00 ", form(4)}, {"1.00\x00", form(4)}, {"1,00", form(1)}, {"1..0", form(2)}, {"1.-0", form(2)},
		{"1.0-", form(3)}, {"1/00", form(1)}, {"1:00", form(1)}, {"/.00", form(0)}, {":.00", form(0)}, {"1.0:", form(3)},
		{"\xff", form(0)}, {"1.\xff0", form(2)}, {"\u0661.00", form(0)}, {"1\u066b00", form(1)},
		{"10000000000.01", outside}, {"-10000000000.01", outside}, {"10000000001.00", outside},
		{"99999999999999999999.00", outside}, {"-99999999999999999999.00", outside},
		{"1000000000000.00", outside}, {"-1000000000000.00", outside}, {"184467440737095516.16", outside}, {"18446744073709551616.00", outside},
		{"99999999999999999999", form(20)}, {"99999999999999999999.000", form(23)},
		{long + ".00", outside}, {long, form(100000)}, {long + ".0", form(100002)},
	} {
		if got, fault := Read(c.text); got != 0 || fault != c.want {
			t.Errorf("Read(%.40q) = %d, %v; want 0, %v", c.text, got, fault, c.want)
		}
	}
}

func TestA3ReadWritten(t *testing.T) {
	for text, want := range map[string]int{
		"0.00": 0, "0.01": 1, "-0.01": -1, "0.10": 10, "1.00": 100, "-1.05": -105, "10.00": 1000, "123.45": 12345,
		"10000000000.00": api.MaxMoney, "-10000000000.00": -api.MaxMoney,
	} {
		if got, fault := Read(text); got != want || fault != (api.Fault{}) {
			t.Errorf("Read(%q) = %d, %v; want %d", text, got, fault, want)
		}
	}
}

// Every text of at most five of these letters is either what is printed of what is read, or a fault.
func TestA3NothingElseIsRead(t *testing.T) {
	var try func(text string)
	try = func(text string) {
		amount, fault := Read(text)
		printed, _ := Print(amount)
		if fault.Err == api.OK && printed != text {
			t.Errorf("Read(%q) = %d, which is printed as %q", text, amount, printed)
		}
		if fault.Err == api.ErrForm && (fault.At < 0 || fault.At > len(text)) {
			t.Errorf("Read(%q): fault at %d", text, fault.At)
		}
		if len(text) < 5 {
			for _, letter := range "-.019x" {
				try(text + string(letter))
			}
		}
	}
	try("")
}

func TestA4RoundingStaysNear(t *testing.T) {
	for _, d := range []int{1, 2, 3, 5, 6, 10} {
		for _, way := range allWays {
			last := math.MinInt
			for n := -100; n <= 100; n++ {
				x, err := Round(n, d, way)
				off := max(x*d-n, n-x*d)
				switch {
				case err != api.OK || off >= d:
					t.Errorf("Round(%d, %d, %d) = %d, %d: a whole one off", n, d, way, x, err)
				case way >= api.RoundHalfUp && 2*off > d:
					t.Errorf("Round(%d, %d, %d) = %d: more than a half off", n, d, way, x)
				case x < last:
					t.Errorf("Round(%d, %d, %d) = %d: below the one ahead, %d", n, d, way, x, last)
				}
				last = x
			}
		}
	}
}

func TestA4SharesMakeTheTotal(t *testing.T) {
	lists := [][]int{
		{1}, {1, 1, 1}, {1, 2, 3}, {0, 5, 0}, {3, 3, 2, 2, 2, 2}, {api.MaxRate, 1}, {999983, 999979, 1, 0, 500000},
		repeated(1, 20), repeated(999999, 19), {7, 0, 11, 13, 0, 17, 19, 23, 29, 31, 37, 41, 43, 47, 53, 59, 61, 67, 71, 73},
	}
	for _, weights := range lists {
		sum := 0
		for _, weight := range weights {
			sum += weight
		}
		for _, total := range []int{0, 1, 2, 3, 10, 17, 100, 12345, 999999999989, api.MaxMoney - 1, api.MaxMoney} {
			parts, err := Share(total, weights)
			if err != api.OK || len(parts) != len(weights) {
				t.Fatalf("Share(%d, %v) = %v, %d", total, weights, parts, err)
			}
			all := 0
			for i, part := range parts {
				all += part
				exact := new(big.Int).Mul(big.NewInt(int64(total)), big.NewInt(int64(weights[i])))
				off := exact.Sub(exact, new(big.Int).Mul(big.NewInt(int64(part)), big.NewInt(int64(sum))))
				if off.CmpAbs(big.NewInt(int64(sum))) >= 0 {
					t.Errorf("Share(%d, %v): part %d is a whole one off", total, weights, i)
				}
			}
			if all != total {
				t.Errorf("Share(%d, %v) makes %d", total, weights, all)
			}
		}
	}
}

func TestA4WhatIsPrintedIsRead(t *testing.T) {
	amounts := []int{api.MaxMoney, api.MaxMoney - 1, 999999999, 1000000000, 9999999999}
	for n := range 2000 {
		amounts = append(amounts, n, n*498765431)
	}
	for _, a := range amounts {
		for _, amount := range []int{a, -a} {
			text, err := Print(amount)
			if got, fault := Read(text); got != amount || err != api.OK || fault != (api.Fault{}) {
				t.Errorf("%d is printed as %q and read as %d, %v", amount, text, got, fault)
			}
			if whole := strconv.Itoa(amount); len(whole) > 3 && strings.Replace(text, ".", "", 1) != whole {
				t.Errorf("%d is printed as %q", amount, text)
			}
		}
	}
}

// P2 and P3: weights are only read, spare room too; answers are new memory, and the same each time.
func TestShareLeavesWeightsAlone(t *testing.T) {
	room := []int{3, 5, 7, 99, 98}
	weights := room[:3]
	first, _ := Share(100, weights)
	kept := slices.Clone(first)
	if !slices.Equal(room, []int{3, 5, 7, 99, 98}) {
		t.Errorf("weights and what is behind them became %v", room)
	}
	weights[0] = 1000
	if !slices.Equal(first, kept) {
		t.Errorf("an answer changed with the weights: %v", first)
	}
	weights[0] = 3
	first[0] = -1
	if second, _ := Share(100, weights); !slices.Equal(second, kept) || !slices.Equal(weights, []int{3, 5, 7}) {
		t.Errorf("the second time: %v of %v; want %v", second, weights, kept)
	}
}
