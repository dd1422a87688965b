package pitch

import (
	"iter"
	"sort"

	"declaim/api"
)

const lowest = 27500 // frequency of 0 cents

func frequency(cents int) int {
	octave, semitone, rest := cents/1200, cents%1200/100, cents%100
	factor := api.Semitones[semitone]*(100-rest) + api.Semitones[semitone+1]*rest
	return rounded(lowest*factor<<octave, 100<<20)
}

// notAbove returns how many cents, from 0 on, have no greater frequency.
func notAbove(limit int) int {
	return sort.Search(api.MaxCents+1, func(cents int) bool { return frequency(cents) > limit })
}

// cycle returns the phase at which there is a pulse.
func cycle(rate int) int { return 1000 * rate }

// pulses yields the samples with a pulse.
func pulses(rate int, frequencies []int) iter.Seq[int] {
	return func(yield func(int) bool) {
		phase := 0
		for sample, f := range frequencies {
			phase += f
			if phase < cycle(rate) {
				continue
			}
			if !yield(sample) {
				return
			}
			phase -= cycle(rate)
		}
	}
}

// count needs no phase of each sample: no frequency is so great that a sample would have two pulses.
func count(rate int, frequencies []int) (int, int) {
	sum := 0
	for _, f := range frequencies {
		sum += f
	}
	return sum / cycle(rate), sum % cycle(rate)
}
