package text

import (
	"cmp"
	"container/heap"
	"slices"

	"declaim/api"
)

// tail is the rest of a reading: a step, and behind it the tail of a rank among those of the state that the step leads to.
type tail struct {
	choice
	rank int
}

// compare orders tails of one state as readings are ordered; behind equal steps, it is enough to know which one costs less.
func (t tail) compare(other tail) int {
	return cmp.Or(cmp.Compare(t.cost, other.cost), cmp.Compare(t.convention, other.convention), cmp.Compare(t.to, other.to))
}

// queue gives out the first one of its tails.
type queue interface {
	add(t tail)
	take() (tail, bool)
}

// tailHeap is sorted by container/heap.
type tailHeap []tail

func (h tailHeap) Len() int           { return len(h) }
func (h tailHeap) Less(i, j int) bool { return h[i].compare(h[j]) < 0 }
func (h tailHeap) Swap(i, j int)      { h[i], h[j] = h[j], h[i] }
func (h *tailHeap) Push(t any)        { *h = append(*h, t.(tail)) }

func (h *tailHeap) Pop() any {
	old := *h
	t := old[len(old)-1]
	*h = old[:len(old)-1]
	return t
}

// heaped is the queue of a heap.
type heaped struct{ tails tailHeap }

func (q *heaped) add(t tail) { heap.Push(&q.tails, t) }

func (q *heaped) take() (tail, bool) {
	if len(q.tails) == 0 {
		return tail{}, false
	}
	return heap.Pop(&q.tails).(tail), true
}

// tails are those of a state: the first ones in order, and a queue that has the next one of each step.
type tails struct {
	found []tail
	open  queue
}

// ranking finds the first readings of a text, in order.
type ranking struct {
	*plan
	most   int // how many are wanted
	states map[state]*tails
}

func newRanking(p *plan, most int) *ranking {
	return &ranking{plan: p, most: most, states: map[state]*tails{}}
}

func (r *ranking) readings() []api.Reading {
	var readings []api.Reading
	for rank := range r.most {
		first, found := r.tail(beginning, rank)
		if !found {
			break
		}
		readings = append(readings, api.Reading{Steps: r.steps(rank), Cost: first.cost})
	}
	return readings
}

// steps follows the tails from the beginning on.
func (r *ranking) steps(rank int) []api.Step {
	var steps []api.Step
	for s := beginning; s.at != r.end(); {
		t, _ := r.tail(s, rank)
		steps = append(steps, r.stepOf(piece{t.convention, s.at, t.to}))
		s, rank = state{t.to, t.convention}, t.rank
	}
	return steps
}

// tail returns the tail of a rank of a state; false if it has fewer. At the end there is one, which has no steps.
func (r *ranking) tail(s state, rank int) (tail, bool) {
	if s.at == r.end() {
		return tail{}, rank == 0
	}
	own := r.tailsOf(s)
	for len(own.found) <= rank {
		t, some := own.open.take()
		if !some {
			return tail{}, false
		}
		own.found = append(own.found, t)
		r.addNext(own.open, s, t)
	}
	return own.found[rank], true
}

// addNext adds the tail of a state that comes behind another one with the same step.
func (r *ranking) addNext(open queue, s state, t tail) {
	next := state{t.to, t.convention}
	if behind, found := r.tail(next, t.rank+1); found {
		t.cost = r.price(s.last, t.convention) + behind.cost
		t.rank++
		open.add(t)
	}
}

func (r *ranking) tailsOf(s state) *tails {
	own := r.states[s]
	if own == nil {
		own = &tails{open: &heaped{r.firstTails(s)}}
		r.states[s] = own
	}
	return own
}

// firstTails returns the first tail of each step from a state. As many as are wanted at all are enough; they are sorted, which a heap may be.
func (r *ranking) firstTails(s state) tailHeap {
	var first tailHeap
	for c := range r.choices(s) {
		first = append(first, tail{choice: c})
	}
	slices.SortFunc(first, tail.compare)
	return slices.Clone(first[:min(len(first), r.most)])
}
