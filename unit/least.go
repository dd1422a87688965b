package unit

import "declaim/api"

// chosen are the sets of a cover, each one a bit.
type chosen uint32

func (c chosen) indexes() []int {
	var sets []int
	for i := range api.MaxExact {
		if c>>i&1 == 1 {
			sets = append(sets, i)
		}
	}
	return sets
}

// found is what a hunt ends with, from within all of its calls.
type found struct{ cover chosen }

// A hunt looks for covers in lexicographic order.
type hunt struct {
	sets []numbers
	rest []numbers // by set: what it and the sets behind it have
	most int       // elements of the greatest set
}

func newHunt(sets []numbers) *hunt {
	h := &hunt{sets: sets, rest: make([]numbers, len(sets)+1), most: greatest(sets)}
	for i := len(sets) - 1; i >= 0; i-- {
		h.rest[i] = sets[i].with(&h.rest[i+1])
	}
	return h
}

// leastCover returns the least cover of numbers; there is one.
func leastCover(open numbers, sets []numbers) []int {
	h := newHunt(sets)
	for size := range len(sets) {
		if cover, some := h.cover(open, size); some {
			return cover.indexes()
		}
	}
	return (chosen(1)<<len(sets) - 1).indexes()
}

// cover returns the first cover with so many sets; false if there is none. There must be none with fewer sets.
func (h *hunt) cover(open numbers, size int) (cover chosen, some bool) {
	defer func() {
		switch end := recover().(type) {
		case nil:
		case found:
			cover, some = end.cover, true
		default:
			panic(end)
		}
	}()
	h.look(open, size, 0, 0)
	return 0, false
}

// look tries to add so many sets, from a set on, to a cover.
func (h *hunt) look(open numbers, size, from int, cover chosen) {
	count := open.count()
	if count == 0 {
		panic(found{cover})
	}
	if count > size*h.most {
		return
	}
	for i := from; i < len(h.sets); i++ {
		if beyond := open.without(&h.rest[i]); !beyond.empty() {
			return
		}
		h.look(open.without(&h.sets[i]), size-1, i+1, cover|1<<i)
	}
}
