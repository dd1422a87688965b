package join

import (
	"iter"
	"slices"

	"declaim/api"
)

// A period is what lies between two marks, and what becomes of it.
type period struct {
	number  int
	samples []int
	length  int // with which it is said
	times   int // how often it is said
}

// A change is a step of a transformation, with what it does to a period.
type change struct {
	apply func(p *period)
}

// periods yields the periods of a wave after some changes.
func periods(m api.Marked, changes []change) iter.Seq[period] {
	return func(yield func(period) bool) {
		for i, end := range m.Marks[1:] {
			samples := m.Samples[m.Marks[i]:end]
			p := period{number: i, samples: samples, length: len(samples), times: 1}
			for _, c := range changes {
				c.apply(&p)
			}
			if !yield(p) {
				return
			}
		}
	}
}

// stretching says periods several times, or not at all. The period j of the result was the one with the number j before / after, rounded down: so those with a number or a later one begin at the period number after / before of the result, rounded up.
func stretching(m api.Marked, num, den int) change {
	before := len(m.Marks) - 1
	after := max(1, rounded(before*num, den))
	first := func(number int) int { return (number*after + before - 1) / before }
	return change{func(p *period) { p.times = first(p.number+1) - first(p.number) }}
}

func transposing(num, den int) change {
	return change{func(p *period) { p.length = max(1, rounded(p.length*den, num)) }}
}

// rebuilt returns a wave with other periods between its head and its tail.
func rebuilt(m api.Marked, changes []change) (api.Marked, api.Errno) {
	head, tail := m.Samples[:m.Marks[0]], m.Samples[m.Marks[len(m.Marks)-1]:]
	length, marks := len(head)+len(tail), 1
	for p := range periods(m, changes) {
		length += p.length * p.times
		marks += p.times
	}
	if length > api.MaxWave {
		return api.Marked{}, api.ErrLong
	}
	result := api.Marked{Samples: make([]int, length), Marks: make([]int, 0, marks)}
	at := copy(result.Samples, head)
	for p := range periods(m, changes) {
		for range p.times {
			result.Marks = append(result.Marks, at)
			end := at + p.length
			p.write(result.Samples[at:end:end])
			at = end
		}
	}
	result.Marks = append(result.Marks, at)
	copy(result.Samples[at:], tail)
	return result, api.OK
}

// write cuts a period, or holds its last sample.
func (p period) write(to []int) {
	last := p.samples[len(p.samples)-1]
	for i := copy(to, p.samples); i < len(to); i++ {
		to[i] = last
	}
}

func smoothed(m api.Marked, w int) api.Marked {
	result := api.Marked{Samples: slices.Clone(m.Samples), Marks: slices.Clone(m.Marks)}
	for _, p := range m.Marks[1 : len(m.Marks)-1] {
		if from, to := p-w, p+w; from >= 0 && to <= len(m.Samples) {
			soften(result.Samples[from:p:p], result.Samples[p:to:to])
		}
	}
	return result
}

// soften spreads the difference between two lists over both of them, which are equally long.
func soften(before, after []int) {
	w := len(after)
	difference := after[0] - before[w-1]
	for i := range w {
		share := rounded(difference*(w-i), 2*w+1)
		before[w-1-i] = clipped(before[w-1-i] + share)
		after[i] = clipped(after[i] - share)
	}
}
