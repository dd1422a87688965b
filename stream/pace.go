package stream

import (
	"slices"

	"declaim/api"
)

// A talk is a piece at a pace.
type talk struct {
	api.Speech
	pace api.Pace
}

// A stretch of samples is said so many times in a row.
type stretch struct{ from, to, times int }

func (s stretch) length() int { return s.times * (s.to - s.from) }

// periodsBefore is how many periods are said, repeated ones each time, before the one with an index.
func (t talk) periodsBefore(index int) int { return index * t.pace.Den / t.pace.Num }

// stretches yields the samples before the first period, then the periods.
func (t talk) stretches(yield func(stretch) bool) {
	from, times := 0, 1
	for i, begin := range t.Periods {
		if !yield(stretch{from, begin, times}) {
			return
		}
		from, times = begin, t.periodsBefore(i+1)-t.periodsBefore(i)
	}
	yield(stretch{from, len(t.Samples), times})
}

// length is how many samples are said.
func (t talk) length() int {
	sum := 0
	for s := range t.stretches {
		sum += s.length()
	}
	return sum
}

// said yields the samples that are said.
func (t talk) said(yield func(int) bool) {
	for s := range t.stretches {
		for range s.times {
			for _, sample := range t.Samples[s.from:s.to] {
				if !yield(sample) {
					return
				}
			}
		}
	}
}

// cues yields the signs, each at the number of samples that are said before it.
func (t talk) cues(yield func(api.Sign) bool) {
	signs, begin := t.Signs, 0
	for s := range t.stretches {
		for len(signs) > 0 && signs[0].At < s.to {
			// In what is left out, all signs come where the next stretch begins.
			at := begin + min(s.times, 1)*(signs[0].At-s.from)
			if !yield(api.Sign{At: at, Name: signs[0].Name}) {
				return
			}
			signs = signs[1:]
		}
		begin += s.length()
	}
	for _, sign := range signs {
		if !yield(api.Sign{At: begin, Name: sign.Name}) {
			return
		}
	}
}

func (t talk) speech() api.Speech {
	return api.Speech{Voice: t.Voice, Use: t.Use, Samples: slices.Collect(t.said), Signs: slices.Collect(t.cues), Effort: t.Effort}
}
