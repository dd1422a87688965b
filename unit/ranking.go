package unit

import (
	"cmp"
	"container/heap"
	"slices"

	"declaim/api"
)

// state is a unit that is used for a stage, told by its place there.
type state struct{ stage, place int }

// beginning is before all units.
var beginning = state{stage: -1}

// A tail is the rest of a sequence from a state on: what it costs, the place of the next unit, and the rank of what is behind it among the tails of the next state.
type tail struct{ cost, next, rank int }

// compare orders the tails of one state as sequences are ordered.
func (t tail) compare(other tail) int {
	return cmp.Or(cmp.Compare(t.cost, other.cost), cmp.Compare(t.next, other.next), cmp.Compare(t.rank, other.rank))
}

// queue gives out the first one of its tails.
type queue interface {
	heap.Interface
	first() tail
}

// tailHeap is sorted by container/heap.
type tailHeap []tail

func (h tailHeap) Len() int           { return len(h) }
func (h tailHeap) Less(i, j int) bool { return h[i].compare(h[j]) < 0 }
func (h tailHeap) Swap(i, j int)      { h[i], h[j] = h[j], h[i] }
func (h *tailHeap) Push(t any)        { *h = append(*h, t.(tail)) }
func (h tailHeap) first() tail        { return h[0] }

func (h *tailHeap) Pop() any {
	last := len(*h) - 1
	t := (*h)[last]
	*h = (*h)[:last]
	return t
}

// tails are those of a state: the first ones in order, and a queue that has the next one of each next unit, except behind the last one in order.
type tails struct {
	found []tail
	open  queue
}

// ranking finds the first sequences, in order.
type ranking struct {
	stages []stage
	rests  [][]int
	most   int // how many are wanted
	states map[state]*tails
}

func newRanking(stages []stage, rests [][]int, most int) *ranking {
	return &ranking{stages: stages, rests: rests, most: most, states: map[state]*tails{}}
}

func (r *ranking) sequences() []api.Sequence {
	if len(r.stages) == 0 {
		return []api.Sequence{{}}
	}
	var sequences []api.Sequence
	for rank := range r.most {
		first, found := r.tail(beginning, rank)
		if !found {
			break
		}
		sequences = append(sequences, api.Sequence{Units: r.units(first), Cost: first.cost})
	}
	return sequences
}

// units follows a tail of the beginning.
func (r *ranking) units(t tail) []int {
	var units []int
	for i, s := range r.stages {
		units = append(units, s.units[t.next])
		t, _ = r.tail(state{i, t.next}, t.rank)
	}
	return units
}

// tail returns the tail of a rank of a state; false if it has fewer. The first one of a unit is known without any others, and is the only one in the last stage.
func (r *ranking) tail(s state, rank int) (tail, bool) {
	switch {
	case s == beginning:
	case rank == 0:
		return r.bestTail(s), true
	case s.stage+1 == len(r.stages):
		return tail{}, false
	}
	own := r.states[s]
	if own == nil {
		own = &tails{open: r.firstTails(s)}
		r.states[s] = own
	}
	for len(own.found) <= rank {
		if count := len(own.found); count > 0 {
			r.addNext(own.open, s, own.found[count-1])
		}
		if own.open.Len() == 0 {
			return tail{}, false
		}
		own.found = append(own.found, own.open.first())
		heap.Pop(own.open)
	}
	return own.found[rank], true
}

// bestTail returns the first tail of a unit.
func (r *ranking) bestTail(s state) tail {
	t := tail{cost: r.rests[s.stage][s.place]}
	if s.stage+1 < len(r.stages) {
		for t.cost != r.price(s, t.next)+r.rests[s.stage+1][t.next] {
			t.next++
		}
	}
	return t
}

// addNext adds the tail of a state that comes behind another one with the same next unit.
func (r *ranking) addNext(open queue, s state, t tail) {
	if behind, found := r.tail(state{s.stage + 1, t.next}, t.rank+1); found {
		heap.Push(open, tail{cost: r.price(s, t.next) + behind.cost, next: t.next, rank: t.rank + 1})
	}
}

// firstTails returns the first tail of each next unit. As many as are wanted at all are enough; they are sorted, which a heap may be.
func (r *ranking) firstTails(s state) *tailHeap {
	var first tailHeap
	for next, rest := range r.rests[s.stage+1] {
		t := tail{cost: r.price(s, next) + rest, next: next}
		if len(first) == r.most {
			if first[r.most-1].compare(t) < 0 {
				continue
			}
			first = first[:r.most-1]
		}
		at, _ := slices.BinarySearchFunc(first, t, tail.compare)
		first = slices.Insert(first, at, t)
	}
	return &first
}

// price is what a state costs, and that the next unit comes after it.
func (r *ranking) price(s state, next int) int {
	if s == beginning {
		return 0
	}
	from := r.stages[s.stage]
	return from.costs[s.place] + from.joins[s.place][next]
}
