package unit

import (
	"math/bits"
	"slices"

	"declaim/api"
)

const (
	wordBits = 64
	words    = (api.MaxNeeded + wordBits - 1) / wordBits
	whole    = 27720 // the price of a set; it can be divided by all numbers up to mostSet
	mostSet  = 12
)

// numbers are some of those that are needed, each one a bit.
type numbers [words]uint64

// firstNumbers are those from 0 to n - 1.
func firstNumbers(n int) numbers {
	var first numbers
	for number := range n {
		first.add(number)
	}
	return first
}

// newSets returns sets as bits; a number that one of them has several times is one bit.
func newSets(lists [][]int) []numbers {
	sets := make([]numbers, len(lists))
	for i, list := range lists {
		for _, number := range list {
			sets[i].add(number)
		}
	}
	return sets
}

func (s *numbers) add(number int)      { s[number/wordBits] |= 1 << (number % wordBits) }
func (s *numbers) has(number int) bool { return s[number/wordBits]>>(number%wordBits)&1 == 1 }
func (s *numbers) empty() bool         { return *s == numbers{} }

func (s *numbers) count() int {
	sum := 0
	for word := range words {
		sum += bits.OnesCount64(s[word])
	}
	return sum
}

// both are the numbers of both of two sets.
func (s *numbers) both(other *numbers) numbers {
	var both numbers
	for word := range words {
		both[word] = s[word] & other[word]
	}
	return both
}

// without are the numbers of a set that another one does not have.
func (s *numbers) without(other *numbers) numbers {
	var rest numbers
	for word := range words {
		rest[word] = s[word] &^ other[word]
	}
	return rest
}

// with are the numbers of any of two sets.
func (s *numbers) with(other *numbers) numbers {
	var all numbers
	for word := range words {
		all[word] = s[word] | other[word]
	}
	return all
}

// A pick is a set that the greedy cover takes, with the numbers that no set before it has.
type pick struct {
	set   int
	fresh numbers
}

// greedy returns the picks of the greedy cover in the order in which it takes them; false if there is no cover.
func greedy(open numbers, sets []numbers) ([]pick, bool) {
	var picks []pick
	for !open.empty() {
		best, most := pick{}, 0
		for i := range sets {
			fresh := open.both(&sets[i])
			if count := fresh.count(); count > most {
				best, most = pick{i, fresh}, count
			}
		}
		if most == 0 {
			return nil, false
		}
		picks = append(picks, best)
		open = open.without(&best.fresh)
	}
	return picks, true
}

// taken returns the sets of picks in increasing order.
func taken(picks []pick) []int {
	var sets []int
	for _, p := range picks {
		sets = append(sets, p.set)
	}
	slices.Sort(sets)
	return sets
}

// prices divides the price of each pick among the numbers that it covers first.
func prices(n int, picks []pick) []int {
	prices := make([]int, n)
	for _, p := range picks {
		price := whole / p.fresh.count()
		for number := range n {
			if p.fresh.has(number) {
				prices[number] = price
			}
		}
	}
	return prices
}

// greatest is the number of elements of the greatest set, at least 1.
func greatest(sets []numbers) int {
	most := 1
	for i := range sets {
		most = max(most, sets[i].count())
	}
	return most
}

// scaleOf is what the numbers of a set with so many elements cost at most: the last one of them that is covered at most the whole price, the one before it a half, and so on.
func scaleOf(elements int) int {
	scale := 0
	for i := range elements {
		scale += whole / (i + 1)
	}
	return scale
}

// worth is the price of all numbers of a set.
func (s *numbers) worth(prices []int) int {
	sum := 0
	for number, price := range prices {
		if s.has(number) {
			sum += price
		}
	}
	return sum
}
