package numeral_test

import (
	"math/rand/v2"
	"slices"
	"strings"
	"testing"

	"declaim/api"
	"declaim/numeral"
)

// spells compares what is spelled with words that blanks separate; no words mean ErrNone.
func spells(t *testing.T, s api.System, a api.Ask, want string) {
	t.Helper()
	words, e := numeral.Spell(s, a)
	said, traced := numeral.Trace(s, a)
	if want == "" {
		if words != nil || said != nil || e != api.ErrNone || traced != api.ErrNone {
			t.Errorf("%+v: %q %d, %v %d", a, words, e, said, traced)
		}
		return
	}
	if e != api.OK || traced != api.OK || !slices.Equal(words, strings.Fields(want)) {
		t.Errorf("%+v: %q %d, %d", a, words, e, traced)
	}
	if !slices.Equal(words, texts(said)) {
		t.Errorf("%+v: %q, but traced %v", a, words, said)
	}
}

func texts(said []api.Said) []string {
	var all []string
	for _, w := range said {
		all = append(all, w.Text)
	}
	return all
}

func TestSpellExamples(t *testing.T) {
	for n, want := range map[int]string{
		0: "zero", 7: "seven", 9: "nine", 10: "one ty", 30: "three ty", 42: "four ty two", 99: "nine ty nine",
		100: "one hundred", 105: "one hundred and five", 110: "one hundred one ty",
		242: "two hundreds four ty two", 999: "nine hundreds nine ty nine",
	} {
		spells(t, systemE(), api.Ask{Number: n}, want)
	}
}

func TestTraceExamples(t *testing.T) {
	said, e := numeral.Trace(systemE(), api.Ask{Number: 30})
	want := []api.Said{{Text: "three", Number: 3, Rule: 3, Depth: 1}, {Text: "ty", Number: 30, Rule: 10, Piece: 1}}
	if e != api.OK || !slices.Equal(said, want) {
		t.Errorf("30: %+v %d", said, e)
	}
	s := systemE()
	s.Sets = manySets(s.Sets[0], 2)
	s.Sets[0] = slices.Clone(s.Sets[0])
	s.Sets[0][11].Pieces = []api.Piece{piece(api.PieceRest, 0, 1, 0), piece(api.PieceLink, 13, 0, 0), piece(api.PieceCounted, 12, 0, 0), piece(api.PieceQuotient, 0, 0, 0)}
	said, e = numeral.Trace(s, api.Ask{Number: 242})
	want = []api.Said{
		{Text: "four", Number: 4, Set: 0, Rule: 4, Piece: 0, Depth: 2},
		{Text: "ty", Number: 42, Set: 1, Rule: 10, Piece: 1, Depth: 1},
		{Text: "two", Number: 2, Set: 0, Rule: 2, Piece: 0, Depth: 2},
		{Text: "and", Number: 242, Set: 0, Rule: 11, Piece: 1, Depth: 0},
		{Text: "hundreds", Number: 242, Set: 0, Rule: 11, Piece: 2, Depth: 0},
		{Text: "two", Number: 2, Set: 0, Rule: 2, Piece: 0, Depth: 1},
	}
	if e != api.OK || !slices.Equal(said, want) {
		t.Errorf("242: %+v %d", said, e)
	}
}

func TestForms(t *testing.T) {
	s := api.System{
		Top: 9, Genders: 2, Cases: 2, Classes: 2, Plurals: []api.Plural{{Mod: 10, From: 1, To: 1, Class: 1}},
		Terms: []api.Term{{Gender: 1, Forms: []api.Form{
			{Gender: 0, Case: 1, Class: 1, Text: "first"},
			{Gender: -1, Case: 1, Class: 1, Text: "second"},
			{Gender: 0, Case: -1, Class: 0, Text: "third"},
			{Gender: 1, Case: 0, Class: -1, Text: "fourth"},
			{Gender: 1, Case: 0, Class: 0, Text: "never"},
		}}},
		Sets: [][]api.Numeral{{rule(0, 0, piece(api.PieceTerm, 0, 0, 0))}},
	}
	for a, want := range map[api.Ask]string{
		{Number: 1, Case: 1}:            "first",
		{Number: 1, Gender: 1, Case: 1}: "second",
		{Number: 2}:                     "third",
		{Number: 2, Case: 1}:            "third",
		{Number: 2, Gender: 1}:          "fourth",
		{Number: 1, Gender: 1}:          "fourth",
		{Number: 2, Gender: 1, Case: 1}: "",
		{Number: 1}:                     "",
	} {
		spells(t, s, a, want)
	}
	s.Terms[0].Forms = nil
	spells(t, s, api.Ask{}, "")
}

// classes is a system whose terms tell the gender, the case and the class in which they are said.
func classes(pieces ...api.Piece) api.System {
	s := api.System{Top: 9999, Genders: 3, Cases: 2, Classes: 3, Plurals: []api.Plural{{Mod: 10, From: 1, To: 1, Class: 1}, {Mod: 10, From: 2, To: 4, Class: 2}}}
	for term := range 3 {
		t := api.Term{Gender: term}
		for g := range 3 {
			for c := range 2 {
				for k := range 3 {
					t.Forms = append(t.Forms, api.Form{Gender: g, Case: c, Class: k, Text: "t" + string([]byte{byte('0' + term), '/', byte('0' + g), byte('0' + c), byte('0' + k)})})
				}
			}
		}
		s.Terms = append(s.Terms, t)
	}
	s.Sets = [][]api.Numeral{
		{rule(0, 0, piece(api.PieceTerm, 0, 0, 0)), rule(100, 100, pieces...)},
		{rule(0, 0, piece(api.PieceTerm, 1, 0, 0), piece(api.PieceTerm, 2, 0, 0))},
	}
	return s
}

func TestFeatures(t *testing.T) {
	quotient, rest := piece(api.PieceQuotient, 0, 0, 0), piece(api.PieceRest, 0, 0, 0)
	for _, c := range []struct {
		pieces []api.Piece
		a      api.Ask
		want   string
	}{
		// A term: this gender and case, the class of the number, which is neither that of the quotient nor that of the rest.
		{[]api.Piece{piece(api.PieceTerm, 2, 0, 0)}, api.Ask{Number: 352, Gender: 1, Case: 1}, "t2/112"},
		{[]api.Piece{piece(api.PieceTerm, 2, 0, 0)}, api.Ask{Number: 105, Gender: 1}, "t2/100"},
		// A counted term: its own gender, this case, the class of the quotient.
		{[]api.Piece{piece(api.PieceCounted, 2, 0, 0)}, api.Ask{Number: 105, Gender: 1, Case: 1}, "t2/211"},
		{[]api.Piece{piece(api.PieceCounted, 1, 0, 0)}, api.Ask{Number: 305}, "t1/102"},
		// The quotient: in this gender without counted terms, else in that of the first one, wherever it stands.
		{[]api.Piece{quotient}, api.Ask{Number: 105, Gender: 1, Case: 1}, "t0/111"},
		{[]api.Piece{quotient, piece(api.PieceTerm, 2, 0, 0)}, api.Ask{Number: 105, Gender: 1}, "t0/101 t2/100"},
		{[]api.Piece{quotient, piece(api.PieceCounted, 2, 0, 0), piece(api.PieceCounted, 1, 0, 0)}, api.Ask{Number: 305}, "t0/202 t2/202 t1/102"},
		{[]api.Piece{piece(api.PieceCounted, 1, 0, 0), piece(api.PieceCounted, 2, 0, 0), quotient}, api.Ask{Number: 305, Case: 1}, "t1/112 t2/212 t0/112"},
		{[]api.Piece{piece(api.PieceQuotient, 0, 1, 0)}, api.Ask{Number: 305, Gender: 2}, "t1/202 t2/202"},
		// The rest: in this gender, even beside counted terms; nothing for 0.
		{[]api.Piece{piece(api.PieceCounted, 2, 0, 0), rest}, api.Ask{Number: 103, Gender: 1, Case: 1}, "t2/211 t0/112"},
		{[]api.Piece{rest, quotient}, api.Ask{Number: 200, Gender: 1}, "t0/102"},
		{[]api.Piece{quotient, piece(api.PieceRest, 0, 1, 0)}, api.Ask{Number: 201}, "t0/002 t1/001 t2/001"},
		// A link: this gender and case, the class of the rest, for a small enough rest that is not 0.
		{[]api.Piece{quotient, piece(api.PieceLink, 2, 0, 0)}, api.Ask{Number: 199, Gender: 1, Case: 1}, "t0/111 t2/110"},
		{[]api.Piece{quotient, piece(api.PieceLink, 2, 0, 0)}, api.Ask{Number: 100}, "t0/001"},
		{[]api.Piece{quotient, piece(api.PieceLink, 2, 0, 42)}, api.Ask{Number: 541}, "t0/000 t2/001"},
		{[]api.Piece{quotient, piece(api.PieceLink, 2, 0, 42)}, api.Ask{Number: 542}, "t0/000"},
		{[]api.Piece{quotient, piece(api.PieceLink, 2, 0, 42)}, api.Ask{Number: 500}, "t0/000"},
		{[]api.Piece{piece(api.PieceLink, 1, 0, 1), quotient}, api.Ask{Number: 501}, "t0/000"},
	} {
		spells(t, classes(c.pieces...), c.a, c.want)
	}
}

// TestMissingForms: a form is needed only where its piece says something.
func TestMissingForms(t *testing.T) {
	s := systemE()
	s.Terms[13].Forms = nil
	spells(t, s, api.Ask{Number: 105}, "")
	spells(t, s, api.Ask{Number: 100}, "one hundred")
	spells(t, s, api.Ask{Number: 115}, "one hundred one ty five")
	s = systemE()
	s.Terms[12].Forms = s.Terms[12].Forms[:1]
	spells(t, s, api.Ask{Number: 199}, "one hundred nine ty nine")
	spells(t, s, api.Ask{Number: 200}, "")
	s = systemE()
	s.Terms[2].Forms = nil
	for n, want := range map[int]string{2: "", 20: "", 12: "", 102: "", 200: "", 310: "three hundreds one ty"} {
		spells(t, s, api.Ask{Number: n}, want)
	}
}

func TestGreatNumbers(t *testing.T) {
	s := systemE()
	s.Top = api.MaxTop
	s.Sets[0] = append(s.Sets[0], rule(1000, 1000, piece(api.PieceQuotient, 0, 0, 0), piece(api.PieceTerm, 10, 0, 0), piece(api.PieceRest, 0, 0, 0)))
	spells(t, s, api.Ask{Number: api.MaxTop}, strings.Repeat("nine hundreds nine ty nine teen ", 3)+"nine hundreds nine ty nine")
	spells(t, s, api.Ask{Number: 1000000}, "one teen teen")
	// Each division by 2 leaves a rest: the deepest words that there are.
	s.Sets[0] = []api.Numeral{rule(0, 0, piece(api.PieceTerm, 0, 0, 0)), rule(2, 2, piece(api.PieceQuotient, 0, 0, 0), piece(api.PieceRest, 0, 0, 0))}
	said, e := numeral.Trace(s, api.Ask{Number: 1<<39 - 1})
	if e != api.OK || len(said) != 39 || said[0].Depth != 38 || said[38].Depth != 1 {
		t.Errorf("%d words, %d", len(said), e)
	}
}

func TestSpellLikeModel(t *testing.T) {
	forRandomSystems(t, func(r *rand.Rand, s api.System, a api.Ask) {
		for range 50 {
			a.Number = r.IntN(s.Top + 1)
			m := modelOf(s, a)
			spells(t, s, a, strings.Join(m.words(), " "))
			if said, _ := numeral.Trace(s, a); !slices.Equal(said, m.said) {
				t.Errorf("%+v: %+v, not %+v", a, said, m.said)
			}
		}
	})
}
