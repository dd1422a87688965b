package prosody

import (
	"math"
	"slices"

	"declaim/api"
)

const (
	digits  = 15 // gaps whose levels a number holds, even one of 32 bits
	numbers = (api.MaxSpokenW + digits - 1) / digits
)

// cost is what breaks are compared by, in lexicographic order: what each constraint counts, and then the levels of the breaks themselves, in two bits each. It is a sum over the phrases of both levels, so that the best breaks of a sentence consist of the best ones of its pieces. Since levels are a part of it, different breaks never cost the same.
type cost [api.MaxRanks + numbers]int

func (c *cost) add(other *cost) {
	for i := range c {
		c[i] += other[i]
	}
}

// raise makes the level of the break in a gap greater by 1.
func (c *cost) raise(gap int) { c[api.MaxRanks+gap/digits] += 1 << shift(gap) }

func (c *cost) level(gap int) int { return c[api.MaxRanks+gap/digits] >> shift(gap) & 3 }

// shift is such that the levels of earlier gaps are compared first.
func shift(gap int) int { return 2 * (digits - 1 - gap%digits) }

// state says how many breaks of at least each level there are, up to the number from which on they are not told apart.
type state struct{ minor, major int }

// stop is the end of a chain of phrases of the level 1: where it is, and how many breaks are between its phrases, up to the number from which on they are not told apart.
type stop struct{ at, breaks int }

// search finds the best breaks of a sentence, from phrase to phrase of the level 2, each of which is the best chain of phrases of the level 1 with its number of breaks.
type search struct {
	words []api.SpokenWord
	ranks []api.Rank
	told  [major + 1]int    // up to which number breaks of at least a level are told apart
	links [][]*cost         // of the phrases of the level 1, by their first word and the one behind their last word
	best  []map[state]*cost // of what ends before each word, and at the end
	known cost              // the least one of breaks of the whole sentence, up to now
}

func newSearch(words []api.SpokenWord, ranks []api.Rank) *search {
	s := &search{words: words, ranks: ranks, known: cost{math.MaxInt}}
	for _, r := range ranks {
		if r.Kind == api.RankBreaks && r.Bound < gaps(words) {
			s.told[r.Level] = max(s.told[r.Level], r.Bound)
		}
	}
	for from := range words {
		s.links = append(s.links, s.weigh(from, minor))
	}
	for range len(words) + 1 {
		s.best = append(s.best, map[state]*cost{})
	}
	s.best[0][state{}] = &cost{}
	return s
}

// weigh returns the costs of the phrases of a level that begin at a word, by the word behind their last one. A phrase raises the level of the break before it, so that it is in the end the number of levels of which a phrase begins there.
func (s *search) weigh(from, level int) []*cost {
	count, costs := counts(), make([]*cost, len(s.words)+1)
	for to := from + 1; to <= len(s.words); to++ {
		c := &cost{}
		for i, r := range s.ranks {
			if r.Level == level {
				c[i] = count[r.Kind](phrase{s.words, from, to}, r)
			}
		}
		if from > 0 {
			c.raise(from - 1)
		}
		costs[to] = c
	}
	return costs
}

// breaks returns the best breaks.
func (s *search) breaks() []int {
	for from := range s.words {
		s.extend(from)
		s.learn()
	}
	levels := make([]int, gaps(s.words))
	for gap := range levels {
		levels[gap] = s.known.level(gap)
	}
	return levels
}

// extend adds each phrase of the level 2 that begins at a word to what ends before it.
func (s *search) extend(from int) {
	chains, costs := s.chains(from), s.weigh(from, major)
	for to := from + 1; to <= len(s.words); to++ {
		for breaks := range s.told[minor] + 1 {
			if chain := chains[stop{to, breaks}]; chain != nil {
				added := *chain
				added.add(costs[to])
				s.follow(from, to, breaks, &added)
			}
		}
	}
}

// chains returns the costs of the best chains from a word on.
func (s *search) chains(from int) map[stop]*cost {
	chains := map[stop]*cost{{at: from}: {}}
	for at := from; at < len(s.words); at++ {
		for breaks := range s.told[minor] + 1 {
			chain, after := chains[stop{at, breaks}], breaks
			if chain == nil {
				continue
			}
			if at > from {
				after = min(breaks+1, s.told[minor])
			}
			for to := at + 1; to <= len(s.words); to++ {
				lower(chains, stop{to, after}, chain, s.links[at][to])
			}
		}
	}
	return chains
}

// follow adds the cost of a phrase of the level 2 with some breaks in it to what ends before it. What costs more than breaks that are known leads to nothing better, because costs only grow.
func (s *search) follow(from, to, breaks int, added *cost) {
states:
	for before, best := range s.best[from] {
		for i, known := range s.known {
			sum := s.final(i, best[i]+added[i])
			if sum > known {
				continue states
			}
			if sum < known {
				break
			}
		}
		lower(s.best[to], s.after(before, breaks, to), best, added)
	}
}

// after is the state behind a phrase of the level 2 with some breaks in it.
func (s *search) after(before state, breaks, to int) state {
	behind := 0
	if to < len(s.words) {
		behind = 1
	}
	return state{min(before.minor+breaks+behind, s.told[minor]), min(before.major+behind, s.told[major])}
}

// learn looks for a cost that is less than the known ones.
func (s *search) learn() {
	for _, best := range s.best[len(s.words)] {
		c := *best
		for i := range c {
			c[i] = s.final(i, c[i])
		}
		if slices.Compare(c[:], s.known[:]) < 0 {
			s.known = c
		}
	}
}

// final is what an element of a cost is if nothing more is added.
func (s *search) final(i, sum int) int {
	if i < len(s.ranks) {
		return excess(s.ranks[i], sum)
	}
	return sum
}

// lower lets the cost of a key be the sum of two costs if that is less.
func lower[K comparable](costs map[K]*cost, key K, a, b *cost) {
	old := costs[key]
	if old == nil {
		sum := *a
		sum.add(b)
		costs[key] = &sum
		return
	}
	for i := range old {
		if sum := a[i] + b[i]; sum != old[i] {
			if sum < old[i] {
				*old = *a
				old.add(b)
			}
			return
		}
	}
}
