package numeral

import (
	"iter"
	"sort"

	"declaim/api"
)

// The features in which a form agrees, as places in an array.
const (
	gender = iota
	casus
	class
	featureCount
)

// features are a gender, a case and a class.
type features [featureCount]int

// filled has what is wanted where f has -1, so that one comparison of arrays tells whether f agrees.
func (f features) filled(wanted features) features {
	for i, v := range f {
		if v == -1 {
			f[i] = wanted[i]
		}
	}
	return f
}

// hear is given a word and true, or false where a term that is needed has no form; it reports whether to go on.
type hear func(api.Said, bool) bool

// speller spells the numbers of a system that is as defined.
type speller struct {
	api.System
	says map[api.PieceKind]func(p *part, piece int, to hear) bool
}

func newSpeller(s api.System) *speller {
	return &speller{System: s, says: map[api.PieceKind]func(*part, int, hear) bool{
		api.PieceTerm:     (*part).sayTerm,
		api.PieceCounted:  (*part).sayCounted,
		api.PieceQuotient: (*part).sayQuotient,
		api.PieceRest:     (*part).sayRest,
		api.PieceLink:     (*part).sayLink,
	}}
}

func (s *speller) classOf(n int) int {
	for _, p := range s.Plurals {
		if between(n%p.Mod, p.From, p.To) {
			return p.Class
		}
	}
	return 0
}

// form returns the first form of a term that agrees.
func (s *speller) form(term int, wanted features) (string, bool) {
	for _, f := range s.Terms[term].Forms {
		own := features{gender: f.Gender, casus: f.Case, class: f.Class}
		if own.filled(wanted) == wanted {
			return f.Text, true
		}
	}
	return "", false
}

// words yields the words of a number with their reasons, and false where one is missing.
func (s *speller) words(a api.Ask) iter.Seq2[api.Said, bool] {
	return func(yield func(api.Said, bool) bool) {
		s.say(a, 0, yield)
	}
}

func (s *speller) say(a api.Ask, depth int, to hear) bool {
	p := s.takeApart(a, depth)
	for i, piece := range p.rule.Pieces {
		if !s.says[piece.Kind](p, i, to) {
			return false
		}
	}
	return true
}

func (s *speller) spell(a api.Ask) ([]string, bool) {
	return collect(s.words(a), func(w api.Said) string { return w.Text })
}

func (s *speller) trace(a api.Ask) ([]api.Said, bool) {
	return collect(s.words(a), func(w api.Said) api.Said { return w })
}

// uses reports whether a rule is used for a number, for its quotient or rest, and so on.
func (s *speller) uses(a api.Ask, set, rule int) bool {
	p := s.takeApart(a, 0)
	if a.Set == set && p.index == rule {
		return true
	}
	for _, piece := range p.rule.Pieces {
		switch piece.Kind {
		case api.PieceQuotient:
			if s.uses(p.askQuotient(piece.Set), set, rule) {
				return true
			}
		case api.PieceRest:
			if p.rest != 0 && s.uses(p.askRest(piece.Set), set, rule) {
				return true
			}
		}
	}
	return false
}

// part is a number that its rule takes apart.
type part struct {
	*speller
	api.Ask
	index    int // of the rule in the set
	rule     api.Numeral
	quotient int
	rest     int
	depth    int
}

func (s *speller) takeApart(a api.Ask, depth int) *part {
	rules := s.Sets[a.Set]
	above := sort.Search(len(rules), func(i int) bool { return rules[i].Base > a.Number })
	p := &part{speller: s, Ask: a, index: above - 1, rule: rules[above-1], depth: depth}
	if d := p.rule.Divisor; d != 0 {
		p.quotient, p.rest = a.Number/d, a.Number%d
	}
	return p
}

// askQuotient asks for the quotient, in the gender of what it counts.
func (p *part) askQuotient(set int) api.Ask {
	inner := api.Ask{Number: p.quotient, Set: set, Gender: p.Gender, Case: p.Case}
	for _, piece := range p.rule.Pieces {
		if piece.Kind == api.PieceCounted {
			inner.Gender = p.Terms[piece.Term].Gender
			break
		}
	}
	return inner
}

func (p *part) askRest(set int) api.Ask {
	return api.Ask{Number: p.rest, Set: set, Gender: p.Gender, Case: p.Case}
}

// sayForm says the term of a piece in a gender, for the class of a number.
func (p *part) sayForm(piece, termGender, counted int, to hear) bool {
	wanted := features{gender: termGender, casus: p.Case, class: p.classOf(counted)}
	text, ok := p.form(p.rule.Pieces[piece].Term, wanted)
	if !ok {
		return to(api.Said{}, false)
	}
	return to(api.Said{Text: text, Number: p.Number, Set: p.Set, Rule: p.index, Piece: piece, Depth: p.depth}, true)
}

func (p *part) sayTerm(piece int, to hear) bool {
	return p.sayForm(piece, p.Gender, p.Number, to)
}

func (p *part) sayCounted(piece int, to hear) bool {
	return p.sayForm(piece, p.Terms[p.rule.Pieces[piece].Term].Gender, p.quotient, to)
}

func (p *part) sayQuotient(piece int, to hear) bool {
	return p.say(p.askQuotient(p.rule.Pieces[piece].Set), p.depth+1, to)
}

func (p *part) sayRest(piece int, to hear) bool {
	return p.rest == 0 || p.say(p.askRest(p.rule.Pieces[piece].Set), p.depth+1, to)
}

func (p *part) sayLink(piece int, to hear) bool {
	below := p.rule.Pieces[piece].Below
	if p.rest == 0 || below != 0 && p.rest >= below {
		return true
	}
	return p.sayForm(piece, p.Gender, p.rest, to)
}
