package text

import (
	"math"

	"declaim/api"
)

// way is a convention that fits pieces from a place on, with the places where they end.
type way struct {
	convention int
	ends       places
}

// lattice is all that fits a text from its beginning, and from other places that are asked for.
type lattice struct {
	*reader
	ways    [][]way // by place, in order of conventions; those alone from which the end is reached
	reached places  // from the beginning and the other places
}

func newLattice(r *reader, others []int) *lattice {
	l := &lattice{reader: r, ways: make([][]way, r.end()+1)}
	l.reached.add(0)
	for _, place := range others {
		l.reached.add(place)
	}
	// Pieces are never empty, so all that reaches a place comes from smaller ones.
	for from := range l.ways {
		if l.reached.has(from) {
			l.ways[from] = l.waysFrom(from)
		}
	}
	l.prune()
	return l
}

// waysFrom finds the ways from a place, and marks where they lead as reached.
func (l *lattice) waysFrom(from int) []way {
	var ways []way
	for convention := range l.Conventions {
		var ends places
		for to := range l.pieces(convention, from) {
			ends.add(to)
		}
		if !ends.empty() {
			ways = append(ways, way{convention, ends})
			l.reached.join(&ends)
		}
	}
	return ways
}

// prune drops what does not lead to the end.
func (l *lattice) prune() {
	var alive places
	alive.add(l.end())
	for from := l.end() - 1; from >= 0; from-- {
		kept := l.ways[from][:0]
		for _, w := range l.ways[from] {
			w.ends.meet(&alive)
			if !w.ends.empty() {
				kept = append(kept, w)
				alive.add(from)
			}
		}
		l.ways[from] = kept
	}
}

// readable reports whether there is a reading.
func (l *lattice) readable() bool { return l.end() == 0 || len(l.ways[0]) > 0 }

// state is a place with the convention that comes to it, -1 at the beginning.
type state struct {
	at   int
	last int
}

var beginning = state{at: 0, last: -1}

// onward returns, for each way from a place, the least of the rests that are known for where it leads; false if one of them is not known.
func (l *lattice) onward(at int, rests map[state]int) ([]int, bool) {
	least := make([]int, len(l.ways[at]))
	for i := range least {
		w := &l.ways[at][i]
		least[i] = math.MaxInt
		for to := range w.ends.all() {
			rest, known := rests[state{to, w.convention}]
			if !known {
				return nil, false
			}
			least[i] = min(least[i], rest)
		}
	}
	return least, true
}

// holds reports whether a certificate holds for a cost.
func holds(r *reader, cost int, certificate []api.Value) bool {
	rests, at, right := certified(r, certificate)
	if !right {
		return false
	}
	if rest, known := rests[beginning]; !known || rest < cost {
		return false
	}
	l := newLattice(r, at)
	var onward []int
	for i, v := range certificate {
		place := at[i]
		if place == l.end() {
			if v.Rest != 0 {
				return false
			}
			continue
		}
		if i == 0 || at[i-1] != place {
			known := false
			if onward, known = l.onward(place, rests); !known {
				return false
			}
		}
		for w, rest := range onward {
			// The price is subtracted, because a sum with any Rest could overflow.
			if v.Rest-l.price(v.Last, l.ways[place][w].convention) > rest {
				return false
			}
		}
	}
	return true
}

// certified returns the rests of a certificate, and the places of its values; false if these are not as they should be.
func certified(r *reader, certificate []api.Value) (map[state]int, []int, bool) {
	rests := map[state]int{}
	var at []int
	for i, v := range certificate {
		place, found := r.placeOf(v.At)
		if !found || v.Rest < 0 || !exists(v.Last, len(r.Conventions)) && (v.Last != -1 || place != 0) {
			return nil, nil, false
		}
		if i > 0 && !ordered(certificate[i-1], v) {
			return nil, nil, false
		}
		rests[state{place, v.Last}] = v.Rest
		at = append(at, place)
	}
	return rests, at, true
}

func ordered(v, w api.Value) bool { return v.At < w.At || v.At == w.At && v.Last < w.Last }
