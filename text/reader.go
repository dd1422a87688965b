package text

import (
	"iter"
	"slices"

	"declaim/api"
)

// rules are a valid grammar that is prepared for reading texts.
type rules struct {
	*api.Grammar
	beside [][]int // by two neighboring conventions: what the contexts that hold for them cost
}

func newRules(g *api.Grammar) *rules {
	r := &rules{Grammar: g}
	for range g.Conventions {
		r.beside = append(r.beside, make([]int, len(g.Conventions)))
	}
	for _, c := range g.Contexts {
		for left := range g.Conventions {
			if c.Left != -1 && c.Left != left {
				continue
			}
			for right := range g.Conventions {
				if c.Right == -1 || c.Right == right {
					r.beside[left][right] += c.Cost
				}
			}
		}
	}
	return r
}

// price is the cost of a convention behind another one, or at the beginning of the text (-1).
func (r *rules) price(last, convention int) int {
	cost := r.Conventions[convention].Cost
	if last != -1 {
		cost += r.beside[last][convention]
	}
	return cost
}

// reader reads one text by the rules.
type reader struct {
	*rules
	page
	voice *voice
	tried [api.MaxAtoms]places // by atom: where its part can end
	from  [api.MaxAtoms][]int  // by atom and such a place: where its part begins
	parts []string             // the groups of the piece that is looked at
}

func newReader(rules *rules, text string) *reader {
	r := &reader{rules: rules, page: newPage(rules.Sorts, text), voice: newVoice(rules.Grammar)}
	for i := range r.from {
		r.from[i] = make([]int, r.end()+1)
	}
	return r
}

// piece is what a convention reads of a text.
type piece struct {
	convention int
	from       int
	to         int
}

// step shares no memory with the words.
func (r *reader) step(p piece, words []string) api.Step {
	return api.Step{Convention: p.convention, From: r.starts[p.from], To: r.starts[p.to], Words: append([]string(nil), words...)}
}

// pieces yields where the pieces end that a convention fits from a place on, in increasing order, with what is said for each of them. The words change when the next ones are said.
func (r *reader) pieces(convention, from int) iter.Seq2[int, []string] {
	return func(yield func(int, []string) bool) {
		c := &r.Conventions[convention]
		if !r.allowed(c.Before, from == 0, from-1) {
			return
		}
		ends := r.divide(c.Pattern, from)
		for to := range ends.all() {
			if !r.allowed(c.After, to == r.end(), to) {
				continue
			}
			words, ok := r.voice.speak(c.Says, r.groups(c, to))
			if ok && !yield(to, words) {
				return
			}
		}
	}
}

// divide returns where a pattern can end from a place on, and leaves in r.from how each of these pieces is divided.
func (r *reader) divide(pattern []api.Atom, from int) places {
	if near, far := r.reach(pattern[0], from); near > far {
		return places{}
	}
	clear(r.tried[:len(pattern)])
	var match func(atom, from int)
	match = func(atom, from int) {
		if atom == len(pattern) {
			return
		}
		near, far := r.reach(pattern[atom], from)
		tried := &r.tried[atom]
		// Longer parts go first. So the first way to a place is the one to take, and the place need not be tried again.
		for to := tried.lastOutside(near, far); to >= near; to = tried.lastOutside(near, to-1) {
			tried.add(to)
			r.from[atom][to] = from
			match(atom+1, to)
		}
	}
	match(0, from)
	return r.tried[len(pattern)-1]
}

// groups returns the groups of a convention whose pattern has just been divided, for a piece with this end, until it is called again.
func (r *reader) groups(c *api.Convention, to int) []string {
	r.parts = r.parts[:0]
	for atom, a := range slices.Backward(c.Pattern) {
		from := r.from[atom][to]
		if !literal(a) {
			r.parts = append(r.parts, r.passage(from, to))
		}
		to = from
	}
	slices.Reverse(r.parts)
	return r.parts
}
