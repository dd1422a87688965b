package letter

import (
	"container/heap"
	"slices"

	"declaim/api"
)

// pupil learns the decision list of a letter.
type pupil struct {
	api.Learning
	pairs    []api.Pair
	examples []example       // those that remain
	rest     tally           // of all that remain
	tallies  map[test]*tally // of each test that held for an example at the beginning
	queue    queue           // of the tests that hold for enough examples that remain
}

func newPupil(o api.Learning, pairs []api.Pair, examples []example) *pupil {
	p := &pupil{Learning: o, pairs: pairs, examples: examples, tallies: map[test]*tally{}}
	p.queue.better = func(a, b *tally) bool {
		// The greater quotient, without dividing.
		if left, right := a.most.count*b.all, b.most.count*a.all; left != right {
			return left > right
		}
		if a.all != b.all {
			return a.all > b.all
		}
		return a.test.before(b.test)
	}
	for _, e := range examples {
		p.count(e, 1)
	}
	return p
}

// count adds an example to what is counted, or takes it away (by -1).
func (p *pupil) count(e example, by int) {
	p.rest.add(e.pair, by)
	for candidate := range e.tests(p.Reach) {
		t, known := p.tallies[candidate]
		if !known {
			t = &tally{test: candidate}
			p.tallies[candidate] = t
		}
		queued := t.all >= p.Least
		t.add(e.pair, by)
		switch enough := t.all >= p.Least; {
		case queued && enough:
			heap.Fix(&p.queue, t.place)
		case queued:
			heap.Remove(&p.queue, t.place)
		case enough:
			heap.Push(&p.queue, t)
		}
	}
}

// learn returns the decision list.
func (p *pupil) learn() []api.Choice {
	usual := p.rest.most.pair
	var rules []api.Choice
	for !p.rest.uniform() && len(rules) < p.Most && p.queue.Len() > 0 {
		best := p.queue.first()
		conditions := best.test.conditions()
		rules = append(rules, p.rule(conditions, best.most.pair))
		p.take(conditions)
	}
	if len(p.examples) > 0 {
		usual = p.rest.most.pair
	}
	return append(rules, p.rule(nil, usual))
}

func (p *pupil) rule(conditions []api.Condition, pair int) api.Choice {
	return api.Choice{Tests: conditions, Piece: slices.Clone(p.pairs[pair].Piece)}
}

// take takes the examples away for which conditions hold.
func (p *pupil) take(conditions []api.Condition) {
	p.examples = slices.DeleteFunc(p.examples, func(e example) bool {
		taken := hold(conditions, e.letters, e.at)
		if taken {
			p.count(e, -1)
		}
		return taken
	})
}
