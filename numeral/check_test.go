package numeral_test

import (
	"strings"
	"testing"

	"declaim/api"
	"declaim/numeral"
)

// bend is a change of systemE.
type bend struct {
	name string
	do   func(s *api.System)
}

// bad are changes that break one sentence of the definitions each.
func bad() []bend {
	form := func(s *api.System) *api.Form { return &s.Terms[0].Forms[0] }
	plural := func(s *api.System) *api.Plural { return &s.Plurals[0] }
	pieces := func(s *api.System) []api.Piece { return s.Sets[0][11].Pieces } // quotient, counted, link, rest
	return []bend{
		{"top below 0", func(s *api.System) { s.Top = -1 }},
		{"top above its bound", func(s *api.System) { s.Top = api.MaxTop + 1 }},
		{"no gender", func(s *api.System) { s.Genders = 0 }},
		{"too many genders", func(s *api.System) { s.Genders = api.MaxGenders + 1 }},
		{"no case", func(s *api.System) { s.Cases = 0 }},
		{"too many cases", func(s *api.System) { s.Cases = api.MaxCases + 1 }},
		{"no class", func(s *api.System) { s.Classes, s.Plurals, s.Terms[12] = 0, nil, always("hundred") }},
		{"too many classes", func(s *api.System) { s.Classes = api.MaxClasses + 1 }},
		{"too many terms", func(s *api.System) { s.Terms = append(s.Terms, make([]api.Term, api.MaxTerms-13)...) }},
		{"too many plurals", func(s *api.System) { s.Plurals = manyPlurals(api.MaxPlurals + 1) }},
		{"no set", func(s *api.System) { s.Sets = nil }},
		{"too many sets", func(s *api.System) { s.Sets = manySets(s.Sets[0], api.MaxSets+1) }},
		{"term's gender -1", func(s *api.System) { s.Terms[3].Gender = -1 }},
		{"term's gender", func(s *api.System) { s.Terms[3].Gender = 1 }},
		{"too many forms", func(s *api.System) { s.Terms[0].Forms = manyForms(api.MaxForms + 1) }},
		{"form's gender", func(s *api.System) { form(s).Gender = 1 }},
		{"form's gender -2", func(s *api.System) { form(s).Gender = -2 }},
		{"form's case", func(s *api.System) { form(s).Case = 1 }},
		{"form's case -2", func(s *api.System) { form(s).Case = -2 }},
		{"form's class", func(s *api.System) { form(s).Class = 2 }},
		{"form's class -2", func(s *api.System) { form(s).Class = -2 }},
		{"empty text", func(s *api.System) { form(s).Text = "" }},
		{"long text", func(s *api.System) { form(s).Text = strings.Repeat("x", 31) }},
		{"text with a blank", func(s *api.System) { form(s).Text = "a b" }},
		{"text with byte 127", func(s *api.System) { form(s).Text = "a\x7f" }},
		{"text with byte 128", func(s *api.System) { form(s).Text = "\x80" }},
		{"mod 0", func(s *api.System) { *plural(s) = api.Plural{} }},
		{"mod below 0", func(s *api.System) { *plural(s) = api.Plural{Mod: -5} }},
		{"mod above its bound", func(s *api.System) { plural(s).Mod = 1000001 }},
		{"from below 0", func(s *api.System) { plural(s).From = -1 }},
		{"from above to", func(s *api.System) { plural(s).From = 2 }},
		{"to is mod", func(s *api.System) { plural(s).To = 1000000 }},
		{"plural's class", func(s *api.System) { plural(s).Class = 2 }},
		{"plural's class -1", func(s *api.System) { plural(s).Class = -1 }},
		{"set without rules", func(s *api.System) { s.Sets = append(s.Sets, nil) }},
		{"too many rules", func(s *api.System) { s.Sets[0] = manyRules(api.MaxNumerals + 1) }},
		{"first base", func(s *api.System) { s.Sets[0] = s.Sets[0][1:] }},
		{"first base below 0", func(s *api.System) { s.Sets[0][0].Base = -1 }},
		{"equal bases", func(s *api.System) { s.Sets[0][3].Base = 2 }},
		{"falling bases", func(s *api.System) { s.Sets[0][3].Base = 1 }},
		{"last base above top", func(s *api.System) { s.Top = 99 }},
		{"divisor 1", func(s *api.System) { s.Sets[0][10].Divisor = 1 }},
		{"divisor below 0", func(s *api.System) { s.Sets[0][10].Divisor = -10 }},
		{"divisor above base", func(s *api.System) { s.Sets[0][10].Divisor = 11 }},
		{"divisor 2 for base 1", func(s *api.System) { s.Sets[0][1].Divisor = 2 }},
		{"no pieces", func(s *api.System) { s.Sets[0][0].Pieces = nil }},
		{"too many pieces", func(s *api.System) { s.Sets[0][0].Pieces = samePieces(s.Sets[0][0].Pieces[0], api.MaxPieces+1) }},
		{"kind 0", func(s *api.System) { pieces(s)[0] = api.Piece{} }},
		{"kind 6", func(s *api.System) { pieces(s)[0].Kind = 6 }},
		{"kind -1", func(s *api.System) { pieces(s)[0].Kind = -1 }},
		{"counted without divisor", func(s *api.System) { s.Sets[0][9].Pieces[0].Kind = api.PieceCounted }},
		{"quotient without divisor", func(s *api.System) { s.Sets[0][11].Divisor, s.Sets[0][11].Pieces = 0, pieces(s)[:1] }},
		{"rest without divisor", func(s *api.System) {
			s.Sets[0][9].Pieces = append(s.Sets[0][9].Pieces, piece(api.PieceRest, 0, 0, 0))
		}},
		{"link without divisor", func(s *api.System) {
			s.Sets[0][9].Pieces = append(s.Sets[0][9].Pieces, piece(api.PieceLink, 0, 0, 0))
		}},
		{"two quotients", func(s *api.System) { pieces(s)[2] = piece(api.PieceQuotient, 0, 0, 0) }},
		{"two rests", func(s *api.System) { pieces(s)[2] = piece(api.PieceRest, 0, 0, 0) }},
		{"rest and link alone", func(s *api.System) { s.Sets[0][11].Pieces = pieces(s)[2:] }},
		{"term of a term", func(s *api.System) { s.Sets[0][0].Pieces[0].Term = 14 }},
		{"term -1 of a term", func(s *api.System) { s.Sets[0][0].Pieces[0].Term = -1 }},
		{"set of a term", func(s *api.System) { s.Sets = manySets(s.Sets[0], 2); s.Sets[0][0].Pieces[0].Set = 1 }},
		{"below of a term", func(s *api.System) { s.Sets[0][0].Pieces[0].Below = 1 }},
		{"term of a counted", func(s *api.System) { pieces(s)[1].Term = 14 }},
		{"set of a counted", func(s *api.System) { s.Sets = manySets(s.Sets[0], 2); pieces(s)[1].Set = 1 }},
		{"below of a counted", func(s *api.System) { pieces(s)[1].Below = 1 }},
		{"term of a quotient", func(s *api.System) { pieces(s)[0].Term = 1 }},
		{"set of a quotient", func(s *api.System) { pieces(s)[0].Set = 1 }},
		{"set -1 of a quotient", func(s *api.System) { pieces(s)[0].Set = -1 }},
		{"below of a quotient", func(s *api.System) { pieces(s)[0].Below = 1 }},
		{"term of a rest", func(s *api.System) { pieces(s)[3].Term = 1 }},
		{"set of a rest", func(s *api.System) { pieces(s)[3].Set = 1 }},
		{"below of a rest", func(s *api.System) { pieces(s)[3].Below = 1 }},
		{"term of a link", func(s *api.System) { pieces(s)[2].Term = 14 }},
		{"set of a link", func(s *api.System) { s.Sets = manySets(s.Sets[0], 2); s.Sets[0][11].Pieces[2].Set = 1 }},
		{"below of a link", func(s *api.System) { pieces(s)[2].Below = -1 }},
	}
}

// good are changes up to the bounds of the definitions.
func good() []bend {
	pieces := func(s *api.System) []api.Piece { return s.Sets[0][11].Pieces }
	return []bend{
		{"nothing", func(s *api.System) {}},
		{"greatest top", func(s *api.System) { s.Top = api.MaxTop }},
		{"top is the last base", func(s *api.System) { s.Top = 100 }},
		{"top 0", func(s *api.System) { s.Top, s.Sets[0] = 0, s.Sets[0][:1] }},
		{"all features", func(s *api.System) { s.Genders, s.Cases, s.Classes = api.MaxGenders, api.MaxCases, api.MaxClasses }},
		{"last features", func(s *api.System) {
			s.Genders, s.Cases, s.Classes = 2, 2, 3
			s.Terms[0] = api.Term{Gender: 1, Forms: []api.Form{{Gender: 1, Case: 1, Class: 2, Text: "x"}}}
			s.Plurals[0].Class = 2
		}},
		{"most terms", func(s *api.System) { s.Terms = append(s.Terms, make([]api.Term, api.MaxTerms-14)...) }},
		{"most plurals", func(s *api.System) { s.Plurals = manyPlurals(api.MaxPlurals) }},
		{"no plurals", func(s *api.System) { s.Plurals = nil }},
		{"most sets", func(s *api.System) { s.Sets = manySets(s.Sets[0], api.MaxSets) }},
		{"last set", func(s *api.System) { s.Sets = manySets(s.Sets[0], 2); s.Sets[0][11].Pieces[3].Set = 1 }},
		{"most forms", func(s *api.System) { s.Terms[0].Forms = manyForms(api.MaxForms) }},
		{"no forms", func(s *api.System) { s.Terms[0].Forms = nil }},
		{"longest text", func(s *api.System) { s.Terms[0].Forms[0].Text = strings.Repeat("x", 30) }},
		{"first and last bytes", func(s *api.System) { s.Terms[0].Forms[0].Text = "!~" }},
		{"mod 1", func(s *api.System) { s.Plurals[0] = api.Plural{Mod: 1, Class: 1} }},
		{"last remainder", func(s *api.System) { s.Plurals[0].To = 999999 }},
		{"most rules", func(s *api.System) { s.Sets[0] = manyRules(api.MaxNumerals) }},
		{"divisor 2", func(s *api.System) { s.Sets[0][10].Divisor = 2 }},
		{"divisor 2 for base 2", func(s *api.System) { s.Sets[0][2].Divisor = 2 }},
		{"divisor 0", func(s *api.System) { s.Sets[0][10] = rule(10, 0, piece(api.PieceTerm, 13, 0, 0)) }},
		{"most pieces", func(s *api.System) { s.Sets[0][0].Pieces = samePieces(s.Sets[0][0].Pieces[0], api.MaxPieces) }},
		{"quotient alone", func(s *api.System) { s.Sets[0][11].Pieces = pieces(s)[:1] }},
		{"counted alone", func(s *api.System) { s.Sets[0][11].Pieces = pieces(s)[1:2] }},
		{"several links", func(s *api.System) {
			pieces(s)[0], pieces(s)[3] = piece(api.PieceLink, 0, 0, 0), piece(api.PieceLink, 1, 0, 5)
		}},
		{"great below", func(s *api.System) { pieces(s)[2].Below = 1 << 62 }},
	}
}

func manyPlurals(n int) []api.Plural {
	all := make([]api.Plural, n)
	for i := range all {
		all[i] = api.Plural{Mod: i + 1, To: i}
	}
	return all
}

func manySets(set []api.Numeral, n int) [][]api.Numeral {
	all := make([][]api.Numeral, n)
	for i := range all {
		all[i] = set
	}
	return all
}

func manyForms(n int) []api.Form {
	all := make([]api.Form, n)
	for i := range all {
		all[i] = api.Form{Gender: -1, Case: -1, Class: -1, Text: "x"}
	}
	return all
}

func manyRules(n int) []api.Numeral {
	all := make([]api.Numeral, n)
	for i := range all {
		all[i] = rule(i, 0, piece(api.PieceTerm, 0, 0, 0))
	}
	return all
}

func samePieces(p api.Piece, n int) []api.Piece {
	all := make([]api.Piece, n)
	for i := range all {
		all[i] = p
	}
	return all
}

func TestCheck(t *testing.T) {
	for _, b := range good() {
		s := systemE()
		b.do(&s)
		if e := numeral.Check(s); e != api.OK {
			t.Errorf("%s: %d", b.name, e)
		}
	}
	for _, b := range bad() {
		s := systemE()
		b.do(&s)
		if e := numeral.Check(s); e != api.ErrArg {
			t.Errorf("%s: %d", b.name, e)
		}
	}
	if e := numeral.Check(api.System{}); e != api.ErrArg {
		t.Errorf("the zero value: %d", e)
	}
}

// TestBadSystems: every function refuses every system that is not as defined, with zero results, before all else.
func TestBadSystems(t *testing.T) {
	for _, b := range bad() {
		s := systemE()
		b.do(&s)
		refused(t, b.name, s, api.Ask{}, api.ErrArg)
		refused(t, b.name, s, api.Ask{Number: api.MaxScan + 1}, api.ErrArg)
		if c, e := numeral.Class(s, 1); c != 0 || e != api.ErrArg {
			t.Errorf("%s: Class: %d %d", b.name, c, e)
		}
		for _, two := range [][2]api.System{{s, systemE()}, {systemE(), s}} {
			if l, e := numeral.Differ(two[0], two[1], api.Ask{}); l != nil || e != api.ErrArg {
				t.Errorf("%s: Differ: %v %d", b.name, l, e)
			}
		}
	}
}

// refused checks that all functions with an ask return an error and zero results; Spell and Trace know no ErrLong.
func refused(t *testing.T, name string, s api.System, a api.Ask, want api.Errno) {
	t.Helper()
	if want != api.ErrLong {
		if w, e := numeral.Spell(s, a); w != nil || e != want {
			t.Errorf("%s: Spell: %v %d", name, w, e)
		}
		if w, e := numeral.Trace(s, a); w != nil || e != want {
			t.Errorf("%s: Trace: %v %d", name, w, e)
		}
	}
	if l, e := numeral.Read(s, a, []string{"one"}); l != nil || e != want {
		t.Errorf("%s: Read: %v %d", name, l, e)
	}
	if l, e := numeral.Twins(s, a); l != nil || e != want {
		t.Errorf("%s: Twins: %v %d", name, l, e)
	}
	if l, e := numeral.Missing(s, a); l != nil || e != want {
		t.Errorf("%s: Missing: %v %d", name, l, e)
	}
	if l, e := numeral.Differ(s, s, a); l != nil || e != want {
		t.Errorf("%s: Differ: %v %d", name, l, e)
	}
	if l, e := numeral.Uses(s, a, 0, 0); l != nil || e != want {
		t.Errorf("%s: Uses: %v %d", name, l, e)
	}
	if n, many, e := numeral.Longest(s, a); n != 0 || many != 0 || e != want {
		t.Errorf("%s: Longest: %d %d %d", name, n, many, e)
	}
}

func TestBadAsks(t *testing.T) {
	s := systemE()
	s.Top, s.Genders, s.Cases, s.Sets = 50000, 2, 3, manySets(s.Sets[0], 2)
	for _, a := range []api.Ask{
		{Number: -1}, {Number: 50001}, {Set: -1}, {Set: 2}, {Gender: -1}, {Gender: 2}, {Case: -1}, {Case: 3},
		{Number: 30000, Set: 2}, {Number: 30000, Gender: -1}, {Number: -1 << 63}, {Number: 1<<63 - 1},
	} {
		refused(t, "ask", s, a, api.ErrArg)
	}
	for _, n := range []int{api.MaxScan + 1, 50000} {
		refused(t, "long ask", s, api.Ask{Number: n, Set: 1, Gender: 1, Case: 2}, api.ErrLong)
	}
	if _, e := numeral.Spell(s, api.Ask{Number: 50000, Set: 1, Gender: 1, Case: 2}); e != api.OK {
		t.Errorf("Spell of a number that is not gone through: %d", e)
	}
	small := systemE()
	for _, two := range [][2]api.System{{s, small}, {small, s}} {
		for _, a := range []api.Ask{{Number: 1000}, {Number: 30000}, {Set: 1}, {Gender: 1}, {Case: 1}} {
			if l, e := numeral.Differ(two[0], two[1], a); l != nil || e != api.ErrArg {
				t.Errorf("Differ %+v: %v %d", a, l, e)
			}
		}
	}
}

func TestClass(t *testing.T) {
	s := systemE()
	for n, want := range map[int]int{0: 0, 1: 1, 2: 0, 1000000: 0, 1000001: 1, 1<<63 - 1: 0} {
		if c, e := numeral.Class(s, n); c != want || e != api.OK {
			t.Errorf("%d: %d %d", n, c, e)
		}
	}
	for _, n := range []int{-1, -999999, -1 << 63} {
		if c, e := numeral.Class(s, n); c != 0 || e != api.ErrArg {
			t.Errorf("%d: %d %d", n, c, e)
		}
	}
	s.Classes = 3
	s.Plurals = []api.Plural{{Mod: 100, From: 11, To: 14, Class: 0}, {Mod: 10, From: 1, To: 1, Class: 1}, {Mod: 10, From: 1, To: 4, Class: 2}}
	for n, want := range map[int]int{0: 0, 1: 1, 2: 2, 4: 2, 5: 0, 10: 0, 11: 0, 14: 0, 15: 0, 21: 1, 24: 2, 111: 0, 121: 1, 2000000000001: 1} {
		if c, e := numeral.Class(s, n); c != want || e != api.OK {
			t.Errorf("%d: %d %d", n, c, e)
		}
	}
	s.Plurals = nil
	if c, e := numeral.Class(s, 1); c != 0 || e != api.OK {
		t.Errorf("without plurals: %d %d", c, e)
	}
}
