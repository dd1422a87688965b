// Package numeral is layer 1: see shared/doc/01-numeral.md.
//
// It says numbers in the words of any language, by systems of numerals that are data.
package numeral

import (
	"slices"
	"strings"

	"declaim/api"
)

// Check returns ErrArg for a system that is not as defined.
func Check(s api.System) api.Errno {
	if !systemRight(&s) {
		return api.ErrArg
	}
	return api.OK
}

// Class returns the class of a number, which may be greater than Top.
func Class(s api.System, n int) (int, api.Errno) {
	if !systemRight(&s) || n < 0 {
		return 0, api.ErrArg
	}
	return newSpeller(s).classOf(n), api.OK
}

// Spell returns the words of a number.
func Spell(s api.System, a api.Ask) ([]string, api.Errno) {
	if !askRight(a, s) {
		return nil, api.ErrArg
	}
	words, ok := newSpeller(s).spell(a)
	if !ok {
		return nil, api.ErrNone
	}
	return words, api.OK
}

// Trace returns the words of a number with their reasons.
func Trace(s api.System, a api.Ask) ([]api.Said, api.Errno) {
	if !askRight(a, s) {
		return nil, api.ErrArg
	}
	said, ok := newSpeller(s).trace(a)
	if !ok {
		return nil, api.ErrNone
	}
	return said, api.OK
}

// Read returns the numbers up to the asked one that have exactly these words.
func Read(s api.System, a api.Ask, words []string) ([]int, api.Errno) {
	if e := scanError(a, s); e != api.OK {
		return nil, e
	}
	sp := newSpeller(s)
	found := keep(upTo(a.Number), func(n int) bool {
		own, ok := sp.spell(numbered(a, n))
		return ok && slices.Equal(own, words)
	})
	if len(found) == 0 {
		return nil, api.ErrNone
	}
	return found, api.OK
}

// Twins returns the numbers that have the same words as smaller ones.
func Twins(s api.System, a api.Ask) ([]api.Twin, api.Errno) {
	if e := scanError(a, s); e != api.OK {
		return nil, e
	}
	sp := newSpeller(s)
	first := map[string]int{}
	var twins []api.Twin
	for n := range upTo(a.Number) {
		words, ok := sp.spell(numbered(a, n))
		if !ok {
			continue
		}
		// No text contains a blank, so different words stay different when they are joined.
		key := strings.Join(words, " ")
		if least, known := first[key]; known {
			twins = append(twins, api.Twin{First: least, Second: n})
		} else {
			first[key] = n
		}
	}
	return twins, api.OK
}

// Missing returns the numbers that have no words.
func Missing(s api.System, a api.Ask) ([]int, api.Errno) {
	if e := scanError(a, s); e != api.OK {
		return nil, e
	}
	sp := newSpeller(s)
	return keep(upTo(a.Number), func(n int) bool {
		_, ok := sp.spell(numbered(a, n))
		return !ok
	}), api.OK
}

// Differ returns the numbers whose words are different in two systems, or that have words in one of them alone.
func Differ(s, t api.System, a api.Ask) ([]int, api.Errno) {
	if e := scanError(a, s, t); e != api.OK {
		return nil, e
	}
	one, other := newSpeller(s), newSpeller(t)
	return keep(upTo(a.Number), func(n int) bool {
		left, leftOK := one.spell(numbered(a, n))
		right, rightOK := other.spell(numbered(a, n))
		return leftOK != rightOK || !slices.Equal(left, right)
	}), api.OK
}

// Uses returns the numbers for which a rule of a set is used.
func Uses(s api.System, a api.Ask, set, rule int) ([]int, api.Errno) {
	// A rule that does not exist is ErrArg, which comes before ErrLong.
	if !exists(set, len(s.Sets)) || !exists(rule, len(s.Sets[set])) {
		return nil, api.ErrArg
	}
	if e := scanError(a, s); e != api.OK {
		return nil, e
	}
	sp := newSpeller(s)
	return keep(upTo(a.Number), func(n int) bool {
		return sp.uses(numbered(a, n), set, rule)
	}), api.OK
}

// Longest returns the first number with the most words, and how many it has.
func Longest(s api.System, a api.Ask) (int, int, api.Errno) {
	if e := scanError(a, s); e != api.OK {
		return 0, 0, e
	}
	sp := newSpeller(s)
	longest, most := 0, 0
	for n := range upTo(a.Number) {
		if words, ok := sp.spell(numbered(a, n)); ok && len(words) > most {
			longest, most = n, len(words)
		}
	}
	// Words are never an empty list, so 0 means that no number has any.
	if most == 0 {
		return 0, 0, api.ErrNone
	}
	return longest, most, api.OK
}
