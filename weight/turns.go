package weight

import "steelyard/api"

// Turns: who comes when, as often as their weights say.
func Turns(l []float64, n int) []int {
	if n < 1 || n > api.MaxGrow || len(l) > api.MaxBackends || Best(l) == 0 {
		return nil
	}
	parts, debts := partsOf(l), make([]float64, len(l))
	var turns []int
	for { // it ends, as the best one comes in each round
		for i, part := range parts {
			debts[i] += part
			if debts[i] < 1 {
				continue
			}
			debts[i]--
			turns = append(turns, i)
			if len(turns) == n {
				return turns
			}
		}
	}
}

// partsOf: each one's part of the best one.
func partsOf(l []float64) []float64 {
	best := Best(l)
	var parts []float64
	for _, w := range l {
		parts = append(parts, Part(w, best))
	}
	return parts
}

// Share: so many things, by weights.
func Share(l []float64, n int) []int {
	turns := Turns(l, n)
	if len(turns) == 0 {
		return nil
	}
	share := make([]int, len(l))
	for _, i := range turns {
		share[i]++
	}
	return share
}
