package house_test

import (
	"math/rand/v2"
	"slices"
	"strings"

	"declaim/api"
)

// digits is a system of numerals that says the digits, and greater numbers digit by digit.
func digits() api.System {
	s := api.System{Top: 999, Genders: 1, Cases: 1, Classes: 1, Sets: [][]api.Numeral{nil}, Plurals: []api.Plural{{Mod: 10, From: 1, To: 1, Class: 0}}}
	for i, word := range strings.Fields("zero one two three four five six seven eight nine") {
		s.Terms = append(s.Terms, api.Term{Forms: []api.Form{{Gender: -1, Case: -1, Class: -1, Text: word}}})
		s.Sets[0] = append(s.Sets[0], api.Numeral{Base: i, Pieces: []api.Piece{{Kind: api.PieceTerm, Term: i}}})
	}
	s.Sets[0] = append(s.Sets[0], api.Numeral{Base: 10, Divisor: 10, Pieces: []api.Piece{{Kind: api.PieceQuotient}, {Kind: api.PieceRest}}})
	return s
}

// some is an atom of a sort.
func some(sort, least, most int) api.Atom { return api.Atom{Sort: sort, Least: least, Most: most} }

func exactly(text string) api.Atom { return api.Atom{Text: text} }

func pattern(atoms ...api.Atom) []api.Atom { return atoms }

func says(all ...api.Say) []api.Say { return all }

func sayWords(words ...string) api.Say { return api.Say{Kind: api.SayWords, Words: words} }

// The sorts of grammarE.
const (
	sortDigits = iota
	sortLetters
	sortBlank
)

// grammarE is like the one of the examples of layer 2.
func grammarE() api.Grammar {
	return api.Grammar{
		System: digits(),
		Sorts:  [][]api.Span{{{From: '0', To: '9'}}, {{From: 'a', To: 'z'}}, {{From: ' ', To: ' '}}},
		Tables: [][]api.Row{{{Text: "kg", Words: []string{"kilos"}}}},
		Nouns:  []api.Noun{{Word: "kilos"}},
		Conventions: []api.Convention{
			{Pattern: pattern(some(sortDigits, 1, 3)), Says: says(api.Say{Kind: api.SayNumber}), Cost: 1},
			{Pattern: pattern(some(sortLetters, 1, 10)), Says: says(api.Say{Kind: api.SayEcho}), Cost: 3},
			{Pattern: pattern(some(sortBlank, 1, 1))},
			{Pattern: pattern(some(sortLetters, 1, 3)), Says: says(api.Say{Kind: api.SayRow}), Cost: 1},
			{Pattern: pattern(some(sortDigits, 1, 9)), Says: says(api.Say{Kind: api.SayDigits}), Cost: 2},
		},
		Contexts: []api.Context{{Left: 2, Right: 2, Cost: 5}},
	}
}

// withCost is grammarE with another cost of a convention.
func withCost(convention, cost int) api.Grammar {
	g := grammarE()
	g.Conventions[convention].Cost = cost
	return g
}

// with is grammarE with more conventions.
func with(more ...api.Convention) api.Grammar {
	g := grammarE()
	g.Conventions = append(g.Conventions, more...)
	return g
}

// wrongGrammar is not valid.
func wrongGrammar() api.Grammar { return withCost(4, -1) }

// literal is a convention for a text.
func literal(text string, cost int, words ...string) api.Convention {
	return api.Convention{Pattern: pattern(exactly(text)), Says: says(sayWords(words...)), Cost: cost}
}

// full is a grammar with as many conventions as may be, or with one less.
func full(n int) api.Grammar {
	g := grammarE()
	for len(g.Conventions) < n {
		g.Conventions = append(g.Conventions, literal("never", 0))
	}
	return g
}

// alphabet has characters of one, two and three bytes.
func alphabet() []string { return []string{"a", "a", "b", "1", " ", "\u00e9", "\u20ac"} }

func randomText(r *rand.Rand, n int) string {
	return strings.Join(manyOf(n, func() string { return someOf(r, alphabet()...) }), "")
}

// randomWords are those of few conventions.
func randomWords(r *rand.Rand) []string {
	return someOf(r, nil, []string{"x"}, []string{"any"}, []string{"y", "\xff!"})
}

// randomGrammar is valid; its costs are often equal, or far apart.
func randomGrammar(r *rand.Rand) api.Grammar {
	g := api.Grammar{
		System: digits(),
		Sorts:  [][]api.Span{{{From: '0', To: '9'}}, {{From: 'a', To: 'a'}, {From: 0xe9, To: 0xe9}}, {{From: 0, To: 0x10FFFF}}},
		Tables: [][]api.Row{{{Text: "a", Words: []string{"x"}}, {Text: "aa"}}},
		Nouns:  []api.Noun{{Word: "x"}},
	}
	for range fromTo(r, 1, 5) {
		g.Conventions = append(g.Conventions, randomConvention(r))
	}
	if isChance(r, 75) { // most texts are readable with it
		anything := api.Convention{Pattern: pattern(some(2, 1, fromTo(r, 1, 3))), Says: says(sayWords("any")), Cost: randomCost(r)}
		g.Conventions = slices.Insert(g.Conventions, r.IntN(len(g.Conventions)), anything)
	}
	for range r.IntN(4) {
		n := len(g.Conventions)
		g.Contexts = append(g.Contexts, api.Context{Left: fromTo(r, -1, n-1), Right: fromTo(r, -1, n-1), Cost: randomCost(r)})
	}
	return g
}

func randomCost(r *rand.Rand) int {
	return someOf(r, 0, r.IntN(4), r.IntN(200), r.IntN(1000001), 1000000)
}

func randomConvention(r *rand.Rand) api.Convention {
	c := api.Convention{Cost: randomCost(r)}
	if isChance(r, 50) {
		c.Pattern = pattern(exactly(randomText(r, fromTo(r, 1, 3))))
		c.Says = manyOf(r.IntN(3), func() api.Say { return sayWords(randomWords(r)...) })
	} else {
		least := fromTo(r, 1, 2)
		c.Pattern = pattern(some(r.IntN(3), least, least+r.IntN(2)))
		c.Says = says(someOf(r, api.Say{Kind: api.SayEcho}, api.Say{Kind: api.SayNumber}, api.Say{Kind: api.SayRow}, sayWords(randomWords(r)...)))
	}
	sides := func() []int { return manyOf(max(0, r.IntN(6)-3), func() int { return fromTo(r, -1, 2) }) }
	c.Before, c.After = sides(), sides()
	return c
}

// changed is a grammar with a change or none of its conventions.
func changed(r *rand.Rand, g api.Grammar) api.Grammar {
	g.Conventions = slices.Clone(g.Conventions)
	i := r.IntN(len(g.Conventions))
	switch r.IntN(5) {
	case 0:
		g.Conventions = append(g.Conventions, randomConvention(r))
	case 1:
		g.Conventions[i] = randomConvention(r)
	case 2:
		g.Conventions[i].Cost = randomCost(r)
	case 3:
		g.Conventions[i].Says = says(sayWords(randomWords(r)...))
	}
	return g
}
