package unit

import (
	"math"
	"slices"
)

// costsWith returns what each unit of a stage costs at least with all that is behind it, if it is known what this costs from each unit of the next stage on. Behind the last stage is nothing.
func (s stage) costsWith(after []int) []int {
	costs := slices.Clone(s.costs)
	for place, joins := range s.joins {
		costs[place] += leastSum(joins, after)
	}
	return costs
}

// leastSum returns the least sum of two numbers at the same place of two lists of the same length.
func leastSum(a, b []int) int {
	least := math.MaxInt
	b = b[:len(a)]
	for i, number := range a {
		if sum := number + b[i]; sum < least {
			least = sum
		}
	}
	return least
}

// newRests returns, for each unit of each stage, what the stages from there on cost at least.
func newRests(stages []stage) [][]int {
	rests := make([][]int, len(stages)+1)
	for i := len(stages) - 1; i >= 0; i-- {
		rests[i] = stages[i].costsWith(rests[i+1])
	}
	return rests[:len(stages)]
}

// certify returns rests as a certificate for a voice of so many units.
func certify(stages []stage, rests [][]int, units int) [][]int {
	certificate := newTable(len(stages), units)
	for i, s := range stages {
		for place, u := range s.units {
			certificate[i][u] = rests[i][place]
		}
	}
	return certificate
}

// holds reports whether a certificate holds for a cost. It goes backward from the last stage: no number that holds is greater than what the rest costs, so that no sum overflows.
func holds(stages []stage, cost int, certificate [][]int) bool {
	if len(stages) == 0 {
		return cost <= 0
	}
	var after []int
	for i, s := range slices.Backward(stages) {
		numbers := make([]int, len(s.units))
		for place, most := range s.costsWith(after) {
			numbers[place] = certificate[i][s.units[place]]
			if numbers[place] > most {
				return false
			}
		}
		after = numbers
	}
	return cost <= slices.Min(after)
}
