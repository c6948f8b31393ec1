package money

import "paycycle/api"

// Share a total.
func Share(total int, weights []int) ([]int, api.Errno) {
	if len(weights) < 1 || len(weights) > api.MaxShares {
		return nil, api.ErrMany
	}
	if total < 0 || total > api.MaxMoney {
		return nil, api.ErrRange
	}
	sum := 0
	for _, weight := range weights {
		if !isRate(weight) {
			return nil, api.ErrRange
		}
		sum += weight
	}
	if sum == 0 {
		return nil, api.ErrNone
	}
	return shares(total, sum, weights), api.OK
}

func shares(total, sum int, weights []int) []int {
	parts := make([]int, len(weights))
	rests := make([]int, len(weights))
	left := total
	for i, weight := range weights {
		parts[i] = total * weight / sum
		rests[i] = total * weight % sum
		left -= parts[i]
	}
	for range left {
		i := firstGreatest(rests)
		parts[i]++
		rests[i] = -1 // one each: who has got one is below all others
	}
	return parts
}

func firstGreatest(numbers []int) int {
	best := 0
	for i, n := range numbers {
		if n > numbers[best] {
			best = i
		}
	}
	return best
}
