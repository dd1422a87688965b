package text

import (
	"cmp"
	"iter"
	"math"
	"slices"

	"declaim/api"
)

// plan is all readings of a text, with the least costs of their rests.
type plan struct {
	*lattice
	rests map[state]int      // for each state that readings come to
	said  map[piece][]string // what has been said for pieces
}

func newPlan(rules *rules, text string) *plan {
	p := &plan{
		lattice: newLattice(newReader(rules, text), nil),
		rests:   map[state]int{},
		said:    map[piece][]string{},
	}
	if p.readable() {
		p.findRests()
	}
	return p
}

// findRests goes from the end to the beginning.
func (p *plan) findRests() {
	arrivals := p.arrivals()
	for at := p.end(); at >= 0; at-- {
		onward, _ := p.onward(at, p.rests)
		for convention := range arrivals {
			if arrivals[convention].has(at) {
				p.rests[state{at, convention}] = p.least(state{at, convention}, onward)
			}
		}
		if at == 0 {
			p.rests[beginning] = p.least(beginning, onward)
		}
	}
}

// arrivals returns, by convention, where its pieces end.
func (p *plan) arrivals() []places {
	arrivals := make([]places, len(p.Conventions))
	for _, ways := range p.ways {
		for i := range ways {
			arrivals[ways[i].convention].join(&ways[i].ends)
		}
	}
	return arrivals
}

// least is the least cost of the rest from a state on, by what is known to come behind each way.
func (p *plan) least(s state, onward []int) int {
	if s.at == p.end() {
		return 0
	}
	least := math.MaxInt
	for i, rest := range onward {
		least = min(least, p.price(s.last, p.ways[s.at][i].convention)+rest)
	}
	return least
}

// choice is a step that a reading can take, with the least cost of the rest that begins with it.
type choice struct {
	convention int
	to         int
	cost       int
}

// choices yields the steps that readings can take from a state, by convention and then by where they lead.
func (p *plan) choices(s state) iter.Seq[choice] {
	return func(yield func(choice) bool) {
		for i := range p.ways[s.at] {
			w := &p.ways[s.at][i]
			price := p.price(s.last, w.convention)
			for to := range w.ends.all() {
				if !yield(choice{w.convention, to, price + p.rests[state{to, w.convention}]}) {
					return
				}
			}
		}
	}
}

// first returns the pieces of the first reading, none if there is no reading.
func (p *plan) first() []piece {
	if !p.readable() {
		return nil
	}
	var pieces []piece
	for s := beginning; s.at != p.end(); {
		for c := range p.choices(s) {
			if c.cost == p.rests[s] {
				pieces = append(pieces, piece{c.convention, s.at, c.to})
				s = state{c.to, c.convention}
				break
			}
		}
	}
	return pieces
}

// words returns what the first reading says.
func (p *plan) words() []string {
	var words []string
	for _, chosen := range p.first() {
		words = append(words, p.wordsOf(chosen)...)
	}
	return words
}

// wordsOf says a piece once, and remembers the words.
func (p *plan) wordsOf(wanted piece) []string {
	words, known := p.said[wanted]
	if known {
		return words
	}
	for to, said := range p.pieces(wanted.convention, wanted.from) {
		if to == wanted.to {
			words = slices.Clone(said)
			break
		}
	}
	p.said[wanted] = words
	return words
}

func (p *plan) stepOf(chosen piece) api.Step { return p.step(chosen, p.wordsOf(chosen)) }

// certificate returns the rests as a list.
func (p *plan) certificate() []api.Value {
	var values []api.Value
	for s, rest := range p.rests {
		values = append(values, api.Value{At: p.starts[s.at], Last: s.last, Rest: rest})
	}
	slices.SortFunc(values, func(v, w api.Value) int {
		return cmp.Or(cmp.Compare(v.At, w.At), cmp.Compare(v.Last, w.Last))
	})
	return values
}

// rivals returns the steps that the first reading did not take.
func (p *plan) rivals() []api.Rival {
	var rivals []api.Rival
	s := beginning
	for _, chosen := range p.first() {
		for c := range p.choices(s) {
			if (piece{c.convention, s.at, c.to}) != chosen {
				rivals = append(rivals, api.Rival{From: p.starts[s.at], To: p.starts[c.to], Convention: c.convention, Loss: c.cost - p.rests[s]})
			}
		}
		s = state{chosen.to, chosen.convention}
	}
	return rivals
}
