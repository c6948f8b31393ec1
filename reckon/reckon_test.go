package reckon

import (
	"math"
	"math/big"
	"testing"

	"paycycle/api"
)

func tryIs(t *testing.T, what string, do func() int, want int, wantErr api.Errno) {
	t.Helper()
	got := 0
	err := Try(func() { got = do() })
	if got != want || err != wantErr {
		t.Errorf("%s = %d, %d; want %d, %d", what, got, err, want, wantErr)
	}
}

func TestMoney(t *testing.T) {
	for _, n := range []int{0, 1, -1, api.MaxMoney, -api.MaxMoney} {
		tryIs(t, "Money", func() int { return Money(n) }, n, api.OK)
	}
	for _, n := range []int{api.MaxMoney + 1, -api.MaxMoney - 1, math.MaxInt, math.MinInt} {
		tryIs(t, "Money", func() int { return Money(n) }, 0, api.ErrRange)
	}
}

// TestTry: what stands behind what gives up is not done, and what gives up otherwise goes on doing so.
func TestTry(t *testing.T) {
	done := 0
	err := Try(func() {
		done++
		Money(math.MaxInt)
		done++
	})
	if done != 1 || err != api.ErrRange {
		t.Errorf("%d done, %d", done, err)
	}
	defer func() {
		if what := recover(); what == nil {
			t.Error("what is no giving up is taken for one")
		}
	}()
	Try(func() { panic("something else") })
}

// awayFromZero is the nearest whole number of a fraction, halves away from 0.
func awayFromZero(n, d int) int {
	twice := new(big.Int).Mul(big.NewInt(2), new(big.Int).Abs(big.NewInt(int64(n))))
	whole := new(big.Int).Add(twice, big.NewInt(int64(d)))
	whole.Quo(whole, big.NewInt(int64(2*d)))
	if n < 0 {
		whole.Neg(whole)
	}
	return int(whole.Int64())
}

var amounts = []int{0, 1, 4, 5, 6, 49, 50, 51, 99, 149, 150, 250, 4999, 5000, 15000, 123456789, 499999999999, 500000000000, api.MaxMoney - 1, api.MaxMoney}

func TestRateAndOver(t *testing.T) {
	for _, a := range amounts {
		for _, amount := range []int{a, -a} {
			for _, number := range []int{1, 2, 3, 4, 7, 10, 100, 5000, 9999, 10000, 10001, 999999, api.MaxRate} {
				tryIs(t, "Over", func() int { return Over(amount, number) }, awayFromZero(amount, number), api.OK)
				part, err := awayFromZero(amount*number, 10000), api.OK
				if part > 1000000000000 || part < -1000000000000 {
					part, err = 0, api.ErrRange
				}
				tryIs(t, "Rate", func() int { return Rate(amount, number) }, part, err)
			}
			tryIs(t, "Rate", func() int { return Rate(amount, 0) }, 0, api.OK)
		}
	}
}

func TestTax(t *testing.T) {
	table := api.Table{Name: "t", Brackets: []api.Bracket{{From: 0, Rate: 1000}, {From: 100, Rate: 2000}}}
	for amount, want := range map[int]int{-api.MaxMoney: 0, -1: 0, 0: 0, 4: 0, 5: 1, 100: 10, 200: 30, 202: 30, 203: 31, api.MaxMoney: 199999999990} {
		tryIs(t, "Tax", func() int { return Tax(table, amount) }, want, api.OK)
	}
}

// TestWrong: what money and tables say of wrong numbers gives up too.
func TestWrong(t *testing.T) {
	tryIs(t, "Rate", func() int { return Rate(api.MaxMoney+1, 1) }, 0, api.ErrRange)
	tryIs(t, "Over", func() int { return Over(1, 0) }, 0, api.ErrRange)
	tryIs(t, "Tax", func() int { return Tax(api.Table{}, 1) }, 0, api.ErrForm)
}

func TestHolds(t *testing.T) {
	for _, c := range []struct {
		test              int
		less, equal, more bool
	}{
		{api.TestLess, true, false, false},
		{api.TestUpto, true, true, false},
		{api.TestEqual, false, true, false},
	} {
		for _, far := range []int{1, 2, api.MaxMoney} {
			if Holds(c.test, 5, 5+far) != c.less || Holds(c.test, far, far) != c.equal || Holds(c.test, far, -far) != c.more {
				t.Errorf("test %d, %d apart", c.test, far)
			}
		}
	}
}
