package bounds

import (
	"math"
	"testing"

	"paycycle/api"
)

func TestEdges(t *testing.T) {
	for _, c := range []struct {
		what        string
		is          func(int) bool
		least, most int
	}{
		{"IsDay", IsDay, 0, api.MaxDay},
		{"IsYear", IsYear, 2000, 2199},
		{"IsMoney", IsMoney, -api.MaxMoney, api.MaxMoney},
		{"IsPerson", IsPerson, 1, api.MaxPersons},
	} {
		for _, n := range []int{c.least, c.least + 1, (c.least + c.most) / 2, c.most - 1, c.most} {
			if !c.is(n) {
				t.Errorf("%s(%d) does not hold", c.what, n)
			}
		}
		for _, n := range []int{math.MinInt, c.least - 1, c.most + 1, math.MaxInt} {
			if c.is(n) {
				t.Errorf("%s(%d) holds", c.what, n)
			}
		}
	}
}

func TestSomeMoney(t *testing.T) {
	for _, n := range []int{-api.MaxMoney, -1, 1, api.MaxMoney} {
		if !IsSomeMoney(n) {
			t.Errorf("IsSomeMoney(%d) does not hold", n)
		}
	}
	for _, n := range []int{math.MinInt, -api.MaxMoney - 1, 0, api.MaxMoney + 1, math.MaxInt} {
		if IsSomeMoney(n) {
			t.Errorf("IsSomeMoney(%d) holds", n)
		}
	}
}
