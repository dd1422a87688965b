package letter

import (
	"cmp"
	"iter"
	"slices"

	"declaim/api"
)

// letterAt returns a letter of a word, 0 where there is none.
func letterAt(letters []rune, at int) rune {
	if at < 0 || at >= len(letters) {
		return 0
	}
	return letters[at]
}

// hold reports whether all conditions hold for a letter of a word.
func hold(conditions []api.Condition, letters []rune, at int) bool {
	return every(conditions, func(c api.Condition) bool { return letterAt(letters, at+c.At) == c.Letter })
}

// test is one or two conditions; where there is one alone, the second one is zero.
type test [mostTests]api.Condition

func (t test) single() bool { return t[1].At == 0 }

func (t test) conditions() []api.Condition {
	if t.single() {
		return []api.Condition{t[0]}
	}
	return []api.Condition{t[0], t[1]}
}

// before reports whether a test comes before another one that is as good.
func (t test) before(other test) bool {
	if t.single() != other.single() {
		return t.single()
	}
	return slices.CompareFunc(t[:], other[:], compareConditions) < 0
}

func compareConditions(a, b api.Condition) int {
	return cmp.Or(cmp.Compare(rank(a.At), rank(b.At)), cmp.Compare(a.Letter, b.Letter))
}

// rank is the place of a distance in the order -1, 1, -2, 2, -3, 3.
func rank(at int) int {
	if at < 0 {
		return -2*at - 1
	}
	return 2 * at
}

// tests yields all tests within a reach that hold for an example.
func (e example) tests(reach int) iter.Seq[test] {
	return func(yield func(test) bool) {
		for first := range e.conditions(-reach, reach) {
			if !yield(test{first}) {
				return
			}
			for second := range e.conditions(first.At+1, reach) {
				if !yield(test{first, second}) {
					return
				}
			}
		}
	}
}

// conditions yields the conditions with distances in a range that hold for an example.
func (e example) conditions(from, to int) iter.Seq[api.Condition] {
	return func(yield func(api.Condition) bool) {
		for at := from; at <= to; at++ {
			if at != 0 && !yield(api.Condition{At: at, Letter: letterAt(e.letters, e.at+at)}) {
				return
			}
		}
	}
}
