package text_test

import (
	"math/rand/v2"
	"slices"
	"strings"
	"testing"

	"declaim/api"
	"declaim/text"
)

// always is a term with one form for everything.
func always(word string) api.Term {
	return api.Term{Forms: []api.Form{{Gender: -1, Case: -1, Class: -1, Text: word}}}
}

// systemE is the system e of layer 1.
func systemE() api.System {
	s := api.System{
		Top: 999, Genders: 1, Cases: 1, Classes: 2,
		Plurals: []api.Plural{{Mod: 1000000, From: 1, To: 1, Class: 1}},
		Sets:    [][]api.Numeral{nil},
	}
	for i, word := range strings.Fields("zero one two three four five six seven eight nine teen ty") {
		s.Terms = append(s.Terms, always(word))
		if i < 10 {
			s.Sets[0] = append(s.Sets[0], api.Numeral{Base: i, Pieces: []api.Piece{{Kind: api.PieceTerm, Term: i}}})
		}
	}
	hundred := api.Term{Forms: []api.Form{
		{Gender: -1, Case: -1, Class: 1, Text: "hundred"},
		{Gender: -1, Case: -1, Class: -1, Text: "hundreds"},
	}}
	s.Terms = append(s.Terms, hundred, always("and"))
	s.Sets[0] = append(s.Sets[0],
		api.Numeral{Base: 10, Divisor: 10, Pieces: []api.Piece{{Kind: api.PieceQuotient}, {Kind: api.PieceTerm, Term: 11}, {Kind: api.PieceRest}}},
		api.Numeral{Base: 100, Divisor: 100, Pieces: []api.Piece{{Kind: api.PieceQuotient}, {Kind: api.PieceCounted, Term: 12}, {Kind: api.PieceLink, Term: 13, Below: 10}, {Kind: api.PieceRest}}})
	return s
}

// some is an atom of a sort.
func some(sort, least, most int) api.Atom { return api.Atom{Sort: sort, Least: least, Most: most} }

func exactly(text string) api.Atom { return api.Atom{Text: text} }

func pattern(atoms ...api.Atom) []api.Atom { return atoms }

func says(all ...api.Say) []api.Say { return all }

func sayWords(words string) api.Say {
	return api.Say{Kind: api.SayWords, Words: strings.Fields(words)}
}

// The sorts of grammarE.
const (
	digits = iota
	letters
	blank
)

// grammarE is the grammar of the chapter's examples.
func grammarE() api.Grammar {
	return api.Grammar{
		System: systemE(),
		Sorts:  [][]api.Span{{{From: '0', To: '9'}}, {{From: 'a', To: 'z'}}, {{From: ' ', To: ' '}}},
		Tables: [][]api.Row{{{Text: "kg", Words: []string{"kilos"}}}},
		Conventions: []api.Convention{
			{Pattern: pattern(some(digits, 1, 3)), Says: says(api.Say{Kind: api.SayNumber}), Cost: 1},
			{Pattern: pattern(some(letters, 1, 10)), Says: says(api.Say{Kind: api.SayEcho}), Cost: 3},
			{Pattern: pattern(some(blank, 1, 1))},
			{Pattern: pattern(some(letters, 1, 3)), Says: says(api.Say{Kind: api.SayRow}), Cost: 1},
			{Pattern: pattern(some(digits, 1, 9)), Says: says(api.Say{Kind: api.SayDigits}), Cost: 2},
		},
		Contexts: []api.Context{{Left: 2, Right: 2, Cost: 5}},
	}
}

// agreeing is a system with genders, cases and classes, in which some words are missing.
func agreeing() api.System {
	s := systemE()
	s.Genders, s.Cases, s.Top = 3, 2, 120
	s.Terms[1].Forms = []api.Form{{Gender: 1, Case: -1, Class: -1, Text: "una"}, {Gender: -1, Case: 0, Class: -1, Text: "unus"}, {Gender: -1, Case: 1, Class: -1, Text: "unum"}}
	s.Terms[2].Forms = []api.Form{{Gender: 1, Case: -1, Class: -1, Text: "duae"}, {Gender: 0, Case: -1, Class: -1, Text: "duo"}}
	// The metre is of gender 1, has a plural, and has no form for one in the case 1.
	s.Terms = append(s.Terms, api.Term{Gender: 1, Forms: []api.Form{
		{Gender: 1, Case: 0, Class: 1, Text: "metre"}, {Gender: 1, Case: -1, Class: 0, Text: "metres"}, {Gender: 0, Case: -1, Class: -1, Text: "wrong"},
	}})
	return s
}

const metre = 14 // the term of agreeing that is counted

// grammarA is about agreement.
func grammarA() api.Grammar {
	number := api.Say{Kind: api.SayNumber, Gender: -1}
	return api.Grammar{
		System: agreeing(),
		Sorts:  [][]api.Span{{{From: '0', To: '9'}}, {{From: 'a', To: 'z'}, {From: 0xe9, To: 0xe9}}},
		Tables: [][]api.Row{{{Text: "cm", Words: []string{"small", "lengths"}}, {Text: "m"}, {Text: "\u00e9", Words: []string{"lengths"}}}},
		Nouns:  []api.Noun{{Word: "lengths", Gender: 1}, {Word: "metre", Gender: 1}, {Word: "metres", Gender: 1}, {Word: "small", Gender: 0}},
		Conventions: []api.Convention{
			{Pattern: pattern(some(0, 1, 12), exactly("m")), Says: says(number, api.Say{Kind: api.SayCounted, Term: metre})},
			{Pattern: pattern(some(0, 1, 3), exactly(" "), some(1, 1, 2)), Says: says(number, api.Say{Kind: api.SayRow, Group: 1}), Cost: 1},
			{Pattern: pattern(some(0, 1, 3), exactly("x")), Says: says(sayWords("lengths"), number), Cost: 1},
			{Pattern: pattern(some(0, 1, 3), exactly("y")), Says: says(number, sayWords("other lengths small")), Cost: 1},
			{Pattern: pattern(some(0, 1, 3), exactly("z"), some(1, 1, 10)), Says: says(number, api.Say{Kind: api.SayEcho, Group: 1}), Cost: 1},
			{Pattern: pattern(some(0, 1, 20)), Says: says(api.Say{Kind: api.SayDigits, Gender: 1, Case: 1}), Cost: 5},
		},
	}
}

// copyGrammar shares no memory with g, but for its system, which layer 1 does not change.
func copyGrammar(g api.Grammar) api.Grammar {
	c := g
	c.Sorts = slices.Clone(g.Sorts)
	for i := range c.Sorts {
		c.Sorts[i] = slices.Clone(g.Sorts[i])
	}
	c.Tables = slices.Clone(g.Tables)
	for i := range c.Tables {
		c.Tables[i] = slices.Clone(g.Tables[i])
		for j := range c.Tables[i] {
			c.Tables[i][j].Words = slices.Clone(g.Tables[i][j].Words)
		}
	}
	c.Nouns = slices.Clone(g.Nouns)
	c.Contexts = slices.Clone(g.Contexts)
	c.Conventions = slices.Clone(g.Conventions)
	for i := range c.Conventions {
		c.Conventions[i] = copyConvention(g.Conventions[i])
	}
	return c
}

func copyConvention(c api.Convention) api.Convention {
	c.Pattern = slices.Clone(c.Pattern)
	c.Before, c.After = slices.Clone(c.Before), slices.Clone(c.After)
	c.Says = slices.Clone(c.Says)
	for i := range c.Says {
		c.Says[i].Words = slices.Clone(c.Says[i].Words)
	}
	return c
}

// alphabet has characters of one, two and three bytes.
var alphabet = []string{"a", "a", "b", "1", "1", "2", "0", " ", "\u00e9", "\u20ac"}

func randomText(r *rand.Rand, most int) string {
	var b strings.Builder
	for range r.IntN(most + 1) {
		b.WriteString(alphabet[r.IntN(len(alphabet))])
	}
	return b.String()
}

// randomGrammar is valid; its costs are small, so that many readings cost the same.
func randomGrammar(r *rand.Rand) api.Grammar {
	g := api.Grammar{
		System: agreeing(),
		Sorts: [][]api.Span{
			{{From: '0', To: '9'}}, {{From: 'a', To: 'a'}, {From: 0xe9, To: 0xe9}}, {{From: 0, To: 0x10FFFF}}, {{From: 'b', To: 'z'}, {From: 'a', To: 'c'}}, {{From: ' ', To: ' '}},
		},
		Tables: [][]api.Row{
			{{Text: "a", Words: []string{"short"}}, {Text: "aa", Words: []string{"long", "lady"}}, {Text: "\u00e9"}},
			{{Text: "1", Words: []string{"first"}}, {Text: "b", Words: []string{"lady", "man"}}},
		},
		Nouns: []api.Noun{{Word: "lady", Gender: 1}, {Word: "man", Gender: 2}, {Word: "metre", Gender: 1}, {Word: "metres", Gender: 0}},
	}
	for range 1 + r.IntN(6) {
		g.Conventions = append(g.Conventions, randomConvention(r, g))
	}
	if r.IntN(4) > 0 { // most texts are readable with it
		anything := api.Convention{Pattern: pattern(some(2, 1, 1+r.IntN(3))), Cost: r.IntN(4), Says: says(sayWords("any"))}
		g.Conventions = slices.Insert(g.Conventions, r.IntN(len(g.Conventions)), anything)
	}
	for range r.IntN(5) {
		n := len(g.Conventions) + 1
		g.Contexts = append(g.Contexts, api.Context{Left: r.IntN(n) - 1, Right: r.IntN(n) - 1, Cost: r.IntN(3)})
	}
	return g
}

func randomConvention(r *rand.Rand, g api.Grammar) api.Convention {
	c := api.Convention{Cost: r.IntN(4), Before: randomSides(r, g), After: randomSides(r, g)}
	groups := 0
	for range 1 + r.IntN(3) {
		if r.IntN(4) == 0 {
			c.Pattern = append(c.Pattern, exactly(alphabet[r.IntN(len(alphabet))]))
			continue
		}
		least := 1 + r.IntN(2)
		c.Pattern = append(c.Pattern, some(r.IntN(len(g.Sorts)), least, least+r.IntN(3)))
		groups++
	}
	for range r.IntN(3) {
		c.Says = append(c.Says, randomSay(r, g, groups))
	}
	return c
}

func randomSides(r *rand.Rand, g api.Grammar) []int {
	var sides []int
	for range max(0, r.IntN(8)-4) {
		sides = append(sides, r.IntN(len(g.Sorts)+1)-1)
	}
	return sides
}

func randomSay(r *rand.Rand, g api.Grammar, groups int) api.Say {
	words := []string{"", "lady", "good man", "nothing", "\xff!"}
	if groups == 0 {
		return sayWords(words[r.IntN(len(words))])
	}
	s := api.Say{Kind: api.SayKind(1 + r.IntN(6)), Group: r.IntN(groups)}
	switch s.Kind {
	case api.SayWords:
		return sayWords(words[r.IntN(len(words))])
	case api.SayNumber:
		s.Gender, s.Case = r.IntN(g.System.Genders+1)-1, r.IntN(g.System.Cases)
	case api.SayDigits:
		s.Gender, s.Case = r.IntN(g.System.Genders), r.IntN(g.System.Cases)
	case api.SayRow:
		s.Table = r.IntN(len(g.Tables))
	case api.SayCounted:
		s.Term, s.Case = []int{metre, 1, 2, 12}[r.IntN(4)], r.IntN(g.System.Cases)
	}
	return s
}

// forRandom gives a test many grammars and texts, always the same ones.
func forRandom(t *testing.T, seeds uint64, most int, check func(r *rand.Rand, g api.Grammar, written string)) {
	t.Helper()
	for seed := range seeds {
		r := rand.New(rand.NewPCG(seed, 7))
		g := randomGrammar(r)
		if e := text.Check(g); e != api.OK {
			t.Fatalf("seed %d: Check %d: %+v", seed, e, g)
		}
		check(r, g, randomText(r, most))
		if t.Failed() {
			t.Fatalf("seed %d: %+v", seed, g)
		}
	}
}
