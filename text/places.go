package text

import (
	"iter"
	"math/bits"

	"declaim/api"
)

// places is a set of places of a text, as numbers of characters: 0 to api.MaxText.
type places [api.MaxText/64 + 1]uint64

func (s *places) add(place int) { s[place/64] |= 1 << (place % 64) }

func (s *places) has(place int) bool { return s[place/64]>>(place%64)&1 == 1 }

func (s *places) empty() bool { return *s == places{} }

// join adds the places of another set.
func (s *places) join(other *places) {
	for i, word := range other {
		s[i] |= word
	}
}

// meet keeps the places that are in another set, too.
func (s *places) meet(other *places) {
	for i, word := range other {
		s[i] &= word
	}
}

// all yields the places in increasing order.
func (s *places) all() iter.Seq[int] {
	return func(yield func(int) bool) {
		for i, word := range s {
			for ; word != 0; word &= word - 1 {
				if !yield(i*64 + bits.TrailingZeros64(word)) {
					return
				}
			}
		}
	}
}

// last returns the greatest place of a set that is not empty.
func (s *places) last() int {
	greatest := 0
	for place := range s.all() {
		greatest = place
	}
	return greatest
}

// lastOutside returns the greatest place from least to most that is not in the set, or a smaller one than least if there is none.
func (s *places) lastOutside(least, most int) int {
	for most >= least {
		// The word's places behind most are pushed out, so that most comes first.
		outside := ^s[most/64] << (63 - most%64)
		if outside != 0 {
			return most - bits.LeadingZeros64(outside)
		}
		most = most/64*64 - 1
	}
	return most
}
