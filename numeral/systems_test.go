package numeral_test

import (
	"math/rand/v2"
	"strings"
	"testing"

	"declaim/api"
	"declaim/numeral"
)

// always is a term with one form for everything.
func always(text string) api.Term {
	return api.Term{Forms: []api.Form{{Gender: -1, Case: -1, Class: -1, Text: text}}}
}

func piece(kind api.PieceKind, term, set, below int) api.Piece {
	return api.Piece{Kind: kind, Term: term, Set: set, Below: below}
}

func rule(base, divisor int, pieces ...api.Piece) api.Numeral {
	return api.Numeral{Base: base, Divisor: divisor, Pieces: pieces}
}

// systemE is the system of the chapter's examples.
func systemE() api.System {
	s := api.System{
		Top: 999, Genders: 1, Cases: 1, Classes: 2,
		Plurals: []api.Plural{{Mod: 1000000, From: 1, To: 1, Class: 1}},
		Sets:    [][]api.Numeral{nil},
	}
	for i, word := range strings.Fields("zero one two three four five six seven eight nine teen ty") {
		s.Terms = append(s.Terms, always(word))
		if i < 10 {
			s.Sets[0] = append(s.Sets[0], rule(i, 0, piece(api.PieceTerm, i, 0, 0)))
		}
	}
	hundred := api.Term{Forms: []api.Form{
		{Gender: -1, Case: -1, Class: 1, Text: "hundred"},
		{Gender: -1, Case: -1, Class: -1, Text: "hundreds"},
	}}
	s.Terms = append(s.Terms, hundred, always("and"))
	s.Sets[0] = append(s.Sets[0],
		rule(10, 10, piece(api.PieceQuotient, 0, 0, 0), piece(api.PieceTerm, 11, 0, 0), piece(api.PieceRest, 0, 0, 0)),
		rule(100, 100, piece(api.PieceQuotient, 0, 0, 0), piece(api.PieceCounted, 12, 0, 0), piece(api.PieceLink, 13, 0, 10), piece(api.PieceRest, 0, 0, 0)))
	return s
}

// copySystem shares no memory with s.
func copySystem(s api.System) api.System {
	c := s
	c.Terms = append([]api.Term(nil), s.Terms...)
	for i := range c.Terms {
		c.Terms[i].Forms = append([]api.Form(nil), s.Terms[i].Forms...)
	}
	c.Plurals = append([]api.Plural(nil), s.Plurals...)
	c.Sets = append([][]api.Numeral(nil), s.Sets...)
	for i, set := range s.Sets {
		c.Sets[i] = append([]api.Numeral(nil), set...)
		for j := range set {
			c.Sets[i][j].Pieces = append([]api.Piece(nil), set[j].Pieces...)
		}
	}
	return c
}

// randomSystem is as defined; few texts make twins likely, and some terms lack forms.
func randomSystem(r *rand.Rand) api.System {
	s := api.System{Top: 50 + r.IntN(2000), Genders: 1 + r.IntN(3), Cases: 1 + r.IntN(3), Classes: 1 + r.IntN(3)}
	for range r.IntN(4) {
		mod := 1 + r.IntN(12)
		from := r.IntN(mod)
		s.Plurals = append(s.Plurals, api.Plural{Mod: mod, From: from, To: from + r.IntN(mod-from), Class: r.IntN(s.Classes)})
	}
	for range 2 + r.IntN(6) {
		s.Terms = append(s.Terms, randomTerm(r, s))
	}
	s.Sets = make([][]api.Numeral, 1+r.IntN(3))
	for i := range s.Sets {
		for base := 0; base <= s.Top && len(s.Sets[i]) < 12; base += 1 + r.IntN(1+base) {
			s.Sets[i] = append(s.Sets[i], randomRule(r, s, base))
		}
	}
	return s
}

func randomTerm(r *rand.Rand, s api.System) api.Term {
	texts := strings.Fields("a b c d ab abc")
	t := api.Term{Gender: r.IntN(s.Genders)}
	for range r.IntN(4) {
		t.Forms = append(t.Forms, api.Form{
			Gender: r.IntN(s.Genders+1) - 1, Case: r.IntN(s.Cases+1) - 1, Class: r.IntN(s.Classes+1) - 1,
			Text: texts[r.IntN(len(texts))],
		})
	}
	if r.IntN(6) > 0 {
		t.Forms = append(t.Forms, always(texts[r.IntN(len(texts))]).Forms...)
	}
	return t
}

func randomRule(r *rand.Rand, s api.System, base int) api.Numeral {
	term := func() int { return r.IntN(len(s.Terms)) }
	set := func() int { return r.IntN(len(s.Sets)) }
	if base < 2 || r.IntN(3) == 0 {
		n := rule(base, 0, piece(api.PieceTerm, term(), 0, 0))
		if r.IntN(3) == 0 {
			n.Pieces = append(n.Pieces, piece(api.PieceTerm, term(), 0, 0))
		}
		return n
	}
	n := rule(base, 2+r.IntN(base-1), piece(api.PieceQuotient, 0, set(), 0))
	for _, p := range []api.Piece{
		piece(api.PieceCounted, term(), 0, 0), piece(api.PieceTerm, term(), 0, 0), piece(api.PieceRest, 0, set(), 0),
		piece(api.PieceLink, term(), 0, 0), piece(api.PieceLink, term(), 0, 1+r.IntN(9)), piece(api.PieceCounted, term(), 0, 0),
	} {
		if r.IntN(2) == 0 {
			n.Pieces = append(n.Pieces, p)
		}
	}
	r.Shuffle(len(n.Pieces), func(i, j int) { n.Pieces[i], n.Pieces[j] = n.Pieces[j], n.Pieces[i] })
	return n
}

// randomAsk goes through numbers up to 300 at most.
func randomAsk(r *rand.Rand, s api.System) api.Ask {
	return api.Ask{Number: r.IntN(min(s.Top, 300) + 1), Set: r.IntN(len(s.Sets)), Gender: r.IntN(s.Genders), Case: r.IntN(s.Cases)}
}

// forRandomSystems gives a test many systems and asks, always the same ones.
func forRandomSystems(t *testing.T, check func(r *rand.Rand, s api.System, a api.Ask)) {
	t.Helper()
	for seed := range uint64(150) {
		r := rand.New(rand.NewPCG(seed, 1))
		s := randomSystem(r)
		if e := numeral.Check(s); e != api.OK {
			t.Fatalf("seed %d: Check %d: %+v", seed, e, s)
		}
		check(r, s, randomAsk(r, s))
		if t.Failed() {
			t.Fatalf("seed %d", seed)
		}
	}
}

// model says a number as the chapter's table reads, and notes the rules that it uses, even where a form is missing.
type model struct {
	s       api.System
	said    []api.Said
	used    map[[2]int]bool
	missing bool
}

func modelOf(s api.System, a api.Ask) *model {
	m := &model{s: s, used: map[[2]int]bool{}}
	m.number(a, 0)
	if m.missing {
		m.said = nil
	}
	return m
}

func (m *model) words() []string {
	var all []string
	for _, w := range m.said {
		all = append(all, w.Text)
	}
	return all
}

func (m *model) number(a api.Ask, depth int) {
	set := m.s.Sets[a.Set]
	at := len(set) - 1
	for set[at].Base > a.Number {
		at--
	}
	m.used[[2]int{a.Set, at}] = true
	q, rest := 0, 0
	if set[at].Divisor != 0 {
		q, rest = a.Number/set[at].Divisor, a.Number%set[at].Divisor
	}
	quotientGender := a.Gender
	for i := len(set[at].Pieces) - 1; i >= 0; i-- {
		if p := set[at].Pieces[i]; p.Kind == api.PieceCounted {
			quotientGender = m.s.Terms[p.Term].Gender
		}
	}
	for i, p := range set[at].Pieces {
		why := api.Said{Number: a.Number, Set: a.Set, Rule: at, Piece: i, Depth: depth}
		switch {
		case p.Kind == api.PieceTerm:
			m.term(why, p.Term, a.Gender, a.Case, a.Number)
		case p.Kind == api.PieceCounted:
			m.term(why, p.Term, m.s.Terms[p.Term].Gender, a.Case, q)
		case p.Kind == api.PieceQuotient:
			m.number(api.Ask{Number: q, Set: p.Set, Gender: quotientGender, Case: a.Case}, depth+1)
		case p.Kind == api.PieceRest && rest > 0:
			m.number(api.Ask{Number: rest, Set: p.Set, Gender: a.Gender, Case: a.Case}, depth+1)
		case p.Kind == api.PieceLink && rest > 0 && (p.Below == 0 || rest < p.Below):
			m.term(why, p.Term, a.Gender, a.Case, rest)
		}
	}
}

func (m *model) term(why api.Said, term, gender, kase, number int) {
	class := 0
	for i := len(m.s.Plurals) - 1; i >= 0; i-- {
		if p := m.s.Plurals[i]; number%p.Mod >= p.From && number%p.Mod <= p.To {
			class = p.Class
		}
	}
	for _, f := range m.s.Terms[term].Forms {
		if (f.Gender == gender || f.Gender == -1) && (f.Case == kase || f.Case == -1) && (f.Class == class || f.Class == -1) {
			why.Text = f.Text
			m.said = append(m.said, why)
			return
		}
	}
	m.missing = true
}
