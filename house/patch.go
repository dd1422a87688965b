package house

import (
	"slices"

	"declaim/api"
	"declaim/text"
)

// tooCostly is the least number that no convention can cost.
const tooCostly = 1000001

// A patch is a grammar whose last convention is added for a piece of a text.
type patch struct {
	api.Grammar
	written string
	from    int
}

func newPatch(g api.Grammar, written string, from, to int, words []string) *patch {
	p := &patch{copyGrammar(g), written, from}
	p.Conventions = append(p.Conventions, saying(written[from:to], slices.Clone(words)))
	return p
}

// saying is a convention that says words for a piece.
func saying(piece string, words []string) api.Convention {
	return api.Convention{Pattern: []api.Atom{{Text: piece}}, Says: []api.Say{{Kind: api.SayWords, Words: words}}}
}

// added is the index of the convention.
func (p *patch) added() int { return len(p.Conventions) - 1 }

func (p *patch) setCost(cost int) { p.Conventions[p.added()].Cost = cost }

// works reports whether a cost works. All pieces of the convention have the same length.
func (p *patch) works(cost int) bool {
	p.setCost(cost)
	return slices.ContainsFunc(firstSteps(p.Grammar, p.written), func(s api.Step) bool {
		return s.Convention == p.added() && s.From == p.from
	})
}

// greatest finds a cost that works by halving, if 0 does.
func greatest(works func(cost int) bool) (int, bool) {
	if !works(0) {
		return 0, false
	}
	low, high := 0, tooCostly
	for high-low > 1 {
		if c := (low + high) / 2; works(c) {
			low = c
		} else {
			high = c
		}
	}
	return low, true
}

// changed returns which texts of a corpus are read in another way than by a grammar.
func (p *patch) changed(g api.Grammar, corpus []string) []int {
	indexes, _ := text.Differ(g, p.Grammar, corpus)
	return indexes
}

// copies returns a list of copies.
func copies[E any](list []E, copyOf func(E) E) []E {
	var all []E
	for _, e := range list {
		all = append(all, copyOf(e))
	}
	return all
}

func copyGrammar(g api.Grammar) api.Grammar {
	return api.Grammar{
		System:      copySystem(g.System),
		Sorts:       copies(g.Sorts, copySort),
		Tables:      copies(g.Tables, copyTable),
		Nouns:       slices.Clone(g.Nouns),
		Conventions: copies(g.Conventions, copyConvention),
		Contexts:    slices.Clone(g.Contexts),
	}
}

func copySystem(s api.System) api.System {
	s.Terms = copies(s.Terms, copyTerm)
	s.Plurals = slices.Clone(s.Plurals)
	s.Sets = copies(s.Sets, copySet)
	return s
}

func copyTerm(t api.Term) api.Term {
	t.Forms = slices.Clone(t.Forms)
	return t
}

func copySet(set []api.Numeral) []api.Numeral { return copies(set, copyNumeral) }

func copyNumeral(n api.Numeral) api.Numeral {
	n.Pieces = slices.Clone(n.Pieces)
	return n
}

func copySort(spans []api.Span) []api.Span { return slices.Clone(spans) }

func copyTable(table []api.Row) []api.Row { return copies(table, copyRow) }

func copyRow(r api.Row) api.Row {
	r.Words = slices.Clone(r.Words)
	return r
}

func copyConvention(c api.Convention) api.Convention {
	c.Pattern, c.Says = slices.Clone(c.Pattern), copies(c.Says, copySay)
	c.Before, c.After = slices.Clone(c.Before), slices.Clone(c.After)
	return c
}

func copySay(s api.Say) api.Say {
	s.Words = slices.Clone(s.Words)
	return s
}
