package numeral

import (
	"iter"

	"declaim/api"
)

// upTo yields the numbers from 0 to the last one.
func upTo(last int) iter.Seq[int] {
	return func(yield func(int) bool) {
		for n := range last + 1 {
			if !yield(n) {
				return
			}
		}
	}
}

// numbered asks for another number in the same way.
func numbered(a api.Ask, n int) api.Ask {
	a.Number = n
	return a
}

// keep returns the items that are wanted, in their order.
func keep[T any](items iter.Seq[T], wanted func(T) bool) []T {
	var kept []T
	for item := range items {
		if wanted(item) {
			kept = append(kept, item)
		}
	}
	return kept
}

// collect returns what is asked of each word, or false if a word is missing.
func collect[T any](words iter.Seq2[api.Said, bool], what func(api.Said) T) ([]T, bool) {
	var all []T
	for word, ok := range words {
		if !ok {
			return nil, false
		}
		all = append(all, what(word))
	}
	return all, true
}
