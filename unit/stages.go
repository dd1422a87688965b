package unit

import (
	"slices"

	"declaim/api"
)

// A stage is a target with all that can be used for it. Units are told by their places among those of the stage, so that the costs of all of them are one after the other.
type stage struct {
	units []int   // those with its phone, in increasing order
	costs []int   // of each of them for the target
	joins [][]int // by the units of this stage and of the next one: the costs of the ones after the others; none for the last stage
}

// meeting is two phones beside each other.
type meeting struct{ left, right string }

// newStages returns the stages of targets; false if one of them has no units.
func newStages(voice []api.Unit, t []api.Wanted, w api.Weights) ([]stage, bool) {
	saying := map[string][]int{}
	for i, u := range voice {
		saying[u.Phone] = append(saying[u.Phone], i)
	}
	if slices.ContainsFunc(t, func(t api.Wanted) bool { return saying[t.Phone] == nil }) {
		return nil, false
	}
	costs := remembered(func(t api.Wanted) []int {
		costs := make([]int, len(saying[t.Phone]))
		for i, u := range saying[t.Phone] {
			costs[i] = targetCost(spoken(&voice[u]), t, w)
		}
		return costs
	})
	joins := remembered(func(m meeting) [][]int { return newJoins(voice, saying[m.left], saying[m.right], w) })
	stages := make([]stage, len(t))
	for i := range stages {
		stages[i] = stage{units: saying[t[i].Phone], costs: costs(t[i])}
		if i > 0 {
			stages[i-1].joins = joins(meeting{t[i-1].Phone, t[i].Phone})
		}
	}
	return stages, true
}

// remembered returns a function that computes each value once.
func remembered[K comparable, V any](compute func(K) V) func(K) V {
	known := map[K]V{}
	return func(key K) V {
		value, found := known[key]
		if !found {
			value = compute(key)
			known[key] = value
		}
		return value
	}
}

// newJoins returns the costs of the units at the right after those at the left.
func newJoins(voice []api.Unit, left, right []int, w api.Weights) [][]int {
	joins := newTable(len(left), len(right))
	for i, a := range left {
		for j, b := range right {
			joins[i][j] = joinCost(&voice[a], &voice[b], w)
		}
	}
	return joins
}

// newTable returns rows of zeros.
func newTable(rows, width int) [][]int {
	all, table := make([]int, rows*width), make([][]int, rows)
	for i := range table {
		from, to := i*width, (i+1)*width
		table[i] = all[from:to:to]
	}
	return table
}
