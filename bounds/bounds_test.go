package bounds

import (
	"math"
	"testing"

	"paycycle/api"
)

func TestEdges(t *testing.T) {
	for _, c := range []struct {
		n          int
		day, money bool
	}{
		{math.MinInt, false, false}, {-api.MaxMoney - 1, false, false}, {-api.MaxMoney, false, true}, {-1, false, true}, {0, true, true},
		{api.MaxDay, true, true}, {api.MaxDay + 1, false, true}, {api.MaxMoney, false, true}, {api.MaxMoney + 1, false, false}, {math.MaxInt, false, false},
	} {
		if got := IsDay(c.n); got != c.day {
			t.Errorf("IsDay(%d) = %v", c.n, got)
		}
		if got := IsMoney(c.n); got != c.money {
			t.Errorf("IsMoney(%d) = %v", c.n, got)
		}
	}
}
