package text_test

import (
	"strings"
	"testing"

	"declaim/api"
	"declaim/text"
)

// bend is a change of rich.
type bend struct {
	name string
	do   func(g *api.Grammar)
}

// rich is a grammar with something of everything; its convention 0 has all kinds of says.
func rich() api.Grammar {
	g := grammarA()
	g.Contexts = []api.Context{{Left: -1, Right: 0, Cost: 5}, {Left: 5, Right: -1}}
	g.Conventions[0] = api.Convention{
		Pattern: pattern(some(0, 1, 12), exactly("m"), some(1, 1, 3)),
		Says: says(sayWords("a b"), api.Say{Kind: api.SayNumber, Gender: -1}, api.Say{Kind: api.SayDigits, Gender: 2},
			api.Say{Kind: api.SayEcho, Group: 1}, api.Say{Kind: api.SayRow, Group: 1}, api.Say{Kind: api.SayCounted, Term: metre, Case: 1}),
		Cost: 7, Before: []int{-1, 0, 0}, After: []int{1},
	}
	return g
}

func say(g *api.Grammar, kind api.SayKind) *api.Say { return &g.Conventions[0].Says[kind-1] }

func manyConventions(n int) []api.Convention {
	all := make([]api.Convention, n)
	for i := range all {
		all[i].Pattern = pattern(exactly("x"))
	}
	return all
}

func manyRows(n int) []api.Row {
	all := make([]api.Row, n)
	for i := range all {
		all[i].Text = strings.Repeat("x", i+1)
	}
	return all
}

// manyNouns has words of two letters.
func manyNouns(n int) []api.Noun {
	all := make([]api.Noun, n)
	for i := range all {
		all[i].Word = string([]byte{byte('!' + i/60), byte('!' + i%60)})
	}
	return all
}

func manyAtoms(n int) []api.Atom {
	all := make([]api.Atom, n)
	for i := range all {
		all[i] = some(0, 1, 1)
	}
	return all
}

func manySides(n int) []int {
	all := make([]int, n)
	for i := range all {
		all[i] = i%3 - 1
	}
	return all
}

func badParts() []bend {
	return []bend{
		{"system", func(g *api.Grammar) { g.System.Top = -1 }},
		{"no system", func(g *api.Grammar) { g.System = api.System{} }},
		{"too many sorts", func(g *api.Grammar) {
			for len(g.Sorts) <= api.MaxSorts {
				g.Sorts = append(g.Sorts, g.Sorts[0])
			}
		}},
		{"sort without spans", func(g *api.Grammar) { g.Sorts = append(g.Sorts, nil) }},
		{"too many spans", func(g *api.Grammar) { g.Sorts[0] = make([]api.Span, 101) }},
		{"span below 0", func(g *api.Grammar) { g.Sorts[1][0].From = -1 }},
		{"span backwards", func(g *api.Grammar) { g.Sorts[1][1] = api.Span{From: 3, To: 2} }},
		{"span above the last character", func(g *api.Grammar) { g.Sorts[1][0].To = 0x110000 }},
		{"too many tables", func(g *api.Grammar) { g.Tables = make([][]api.Row, api.MaxTables+1) }},
		{"too many rows", func(g *api.Grammar) { g.Tables[0] = manyRows(api.MaxRows + 1) }},
		{"empty row", func(g *api.Grammar) { g.Tables[0][0].Text = "" }},
		{"equal rows", func(g *api.Grammar) { g.Tables[0][1].Text = "cm" }},
		{"falling rows", func(g *api.Grammar) { g.Tables[0][1].Text = "c" }},
		{"row's words", func(g *api.Grammar) { g.Tables[0][2].Words = []string{"good", ""} }},
		{"too many nouns", func(g *api.Grammar) { g.Nouns = manyNouns(api.MaxNouns + 1) }},
		{"empty noun", func(g *api.Grammar) { g.Nouns[0].Word = "" }},
		{"noun with a blank", func(g *api.Grammar) { g.Nouns[0].Word = "a b" }},
		{"long noun", func(g *api.Grammar) { g.Nouns = []api.Noun{{Word: strings.Repeat("n", 41)}} }},
		{"noun's gender", func(g *api.Grammar) { g.Nouns[0].Gender = 3 }},
		{"noun's gender -1", func(g *api.Grammar) { g.Nouns[0].Gender = -1 }},
		{"equal nouns", func(g *api.Grammar) { g.Nouns[1] = g.Nouns[0] }},
		{"falling nouns", func(g *api.Grammar) { g.Nouns[1].Word = "length" }},
		{"no conventions", func(g *api.Grammar) { g.Conventions, g.Contexts = nil, nil }},
		{"too many conventions", func(g *api.Grammar) { g.Conventions = manyConventions(api.MaxConventions + 1) }},
		{"too many contexts", func(g *api.Grammar) { g.Contexts = make([]api.Context, api.MaxContexts+1) }},
		{"context's left", func(g *api.Grammar) { g.Contexts[0].Left = 6 }},
		{"context's left -2", func(g *api.Grammar) { g.Contexts[0].Left = -2 }},
		{"context's right", func(g *api.Grammar) { g.Contexts[1].Right = 6 }},
		{"context's right -2", func(g *api.Grammar) { g.Contexts[1].Right = -2 }},
		{"context's cost below 0", func(g *api.Grammar) { g.Contexts[0].Cost = -1 }},
		{"context's cost", func(g *api.Grammar) { g.Contexts[0].Cost = 1000001 }},
	}
}

func badConventions() []bend {
	first := func(g *api.Grammar) *api.Convention { return &g.Conventions[0] }
	return []bend{
		{"no pattern", func(g *api.Grammar) { g.Conventions[3] = api.Convention{} }},
		{"too many atoms", func(g *api.Grammar) { g.Conventions[5].Pattern = manyAtoms(api.MaxAtoms + 1) }},
		{"too many says", func(g *api.Grammar) {
			for len(first(g).Says) <= api.MaxSays {
				first(g).Says = append(first(g).Says, sayWords("x"))
			}
		}},
		{"cost below 0", func(g *api.Grammar) { first(g).Cost = -1 }},
		{"cost", func(g *api.Grammar) { first(g).Cost = 1000001 }},
		{"before", func(g *api.Grammar) { first(g).Before[2] = 2 }},
		{"before -2", func(g *api.Grammar) { first(g).Before[1] = -2 }},
		{"after", func(g *api.Grammar) { first(g).After[0] = 2 }},
		{"after -2", func(g *api.Grammar) { first(g).After[0] = -2 }},
		{"too many befores", func(g *api.Grammar) { first(g).Before = manySides(102) }},
		{"too many afters", func(g *api.Grammar) { first(g).After = manySides(102) }},
		{"literal that is not UTF-8", func(g *api.Grammar) { first(g).Pattern[1].Text = "m\xff" }},
		{"literal of half a character", func(g *api.Grammar) { first(g).Pattern[1].Text = "\xc3" }},
		{"literal with a sort", func(g *api.Grammar) { first(g).Pattern[1].Sort = 1 }},
		{"literal with a least", func(g *api.Grammar) { first(g).Pattern[1].Least = 1 }},
		{"literal with a most", func(g *api.Grammar) { first(g).Pattern[1].Most = 1 }},
		{"empty atom", func(g *api.Grammar) { first(g).Pattern[1] = api.Atom{} }},
		{"atom's sort", func(g *api.Grammar) { first(g).Pattern[0].Sort = 2 }},
		{"atom's sort -1", func(g *api.Grammar) { first(g).Pattern[0].Sort = -1 }},
		{"least 0", func(g *api.Grammar) { first(g).Pattern[0].Least = 0 }},
		{"least above most", func(g *api.Grammar) { first(g).Pattern[0].Least = 13 }},
		{"most", func(g *api.Grammar) { first(g).Pattern[0].Most = 101 }},
	}
}

// The fields of a say, as bendField numbers them.
const (
	fieldWords = iota
	fieldGroup
	fieldSet
	fieldGender
	fieldCase
	fieldTable
	fieldTerm
	fieldCount
)

func bendField(s *api.Say, field, value int) {
	if field == fieldWords {
		s.Words = []string{"", "x"}[value:]
		return
	}
	*[]*int{nil, &s.Group, &s.Set, &s.Gender, &s.Case, &s.Table, &s.Term}[field] = value
}

// badSays gives each field that a kind uses the values just outside of its range, and all others any value but 0.
func badSays() []bend {
	used := map[api.SayKind]map[int][]int{
		api.SayWords:   {fieldWords: {0}},
		api.SayNumber:  {fieldGroup: {-1, 2}, fieldSet: {-1, 1}, fieldGender: {-2, 3}, fieldCase: {-1, 2}},
		api.SayDigits:  {fieldGroup: {-1, 2}, fieldSet: {-1, 1}, fieldGender: {-1, 3}, fieldCase: {-1, 2}},
		api.SayEcho:    {fieldGroup: {-1, 2}},
		api.SayRow:     {fieldGroup: {-1, 2}, fieldTable: {-1, 1}},
		api.SayCounted: {fieldGroup: {-1, 2}, fieldTerm: {-1, 15}, fieldCase: {-1, 2}},
	}
	var all []bend
	for kind, ranges := range used {
		for field := range fieldCount {
			values := ranges[field]
			if values == nil {
				values = []int{1}
			}
			for _, value := range values {
				name := "say " + strings.Repeat("I", int(kind)) + " field " + strings.Repeat("I", field)
				all = append(all, bend{name, func(g *api.Grammar) { bendField(say(g, kind), field, value) }})
			}
		}
	}
	long := make([]string, 21)
	for i := range long {
		long[i] = "x"
	}
	words := map[string][]string{"word with a blank": {"a b"}, "word with byte 32": {"x "}, "word with byte 31": {"\x1f"}, "long word": {strings.Repeat("x", 41)}, "too many words": long}
	for name, list := range words {
		all = append(all, bend{name, func(g *api.Grammar) { say(g, api.SayWords).Words = list }})
	}
	for _, kind := range []api.SayKind{0, -1, 7, 1 << 40} {
		all = append(all, bend{"kind", func(g *api.Grammar) { g.Conventions[0].Says[3] = api.Say{Kind: kind} }})
	}
	return append(all, bend{"no group", func(g *api.Grammar) {
		g.Conventions[0] = api.Convention{Pattern: pattern(exactly("x")), Says: says(api.Say{Kind: api.SayEcho})}
	}})
}

// good are changes that reach bounds, but stay within them.
func good() []bend {
	first := func(g *api.Grammar) *api.Convention { return &g.Conventions[0] }
	return []bend{
		{"as it is", func(g *api.Grammar) {}},
		{"most sorts", func(g *api.Grammar) {
			for len(g.Sorts) < api.MaxSorts {
				g.Sorts = append(g.Sorts, g.Sorts[0])
			}
			first(g).Before = []int{99}
		}},
		{"no sorts, tables, nouns, contexts", func(g *api.Grammar) {
			*g = api.Grammar{System: g.System, Conventions: manyConventions(1)}
		}},
		{"spans", func(g *api.Grammar) {
			g.Sorts[0] = make([]api.Span, 100)
			g.Sorts[0][99] = api.Span{To: 0x10FFFF}
			g.Sorts[1][0] = api.Span{From: 0xD800, To: 0xDFFF}
		}},
		{"most tables", func(g *api.Grammar) { g.Tables = make([][]api.Row, api.MaxTables) }},
		{"most rows", func(g *api.Grammar) { g.Tables[0] = manyRows(api.MaxRows) }},
		{"rows of any bytes", func(g *api.Grammar) { g.Tables[0] = []api.Row{{Text: "\x00"}, {Text: " "}, {Text: "\xff"}} }},
		{"most nouns", func(g *api.Grammar) { g.Nouns = manyNouns(api.MaxNouns) }},
		{"noun of any bytes", func(g *api.Grammar) { g.Nouns = []api.Noun{{Word: strings.Repeat("!", 40)}, {Word: "\xff\x80"}} }},
		{"most conventions", func(g *api.Grammar) {
			g.Conventions = manyConventions(api.MaxConventions)
			g.Contexts = []api.Context{{Left: api.MaxConventions - 1, Right: api.MaxConventions - 1, Cost: 1000000}}
		}},
		{"most contexts", func(g *api.Grammar) { g.Contexts = make([]api.Context, api.MaxContexts) }},
		{"most atoms", func(g *api.Grammar) { g.Conventions[5].Pattern = manyAtoms(api.MaxAtoms) }},
		{"most says", func(g *api.Grammar) {
			for len(first(g).Says) < api.MaxSays {
				first(g).Says = append(first(g).Says, api.Say{Kind: api.SayWords})
			}
		}},
		{"costs", func(g *api.Grammar) { first(g).Cost, g.Conventions[1].Cost, g.Contexts[0].Cost = 1000000, 0, 1000000 }},
		{"most sides", func(g *api.Grammar) { first(g).Before, first(g).After = manySides(101), manySides(101) }},
		{"long literal", func(g *api.Grammar) { first(g).Pattern[1].Text = strings.Repeat("\u20ac", 3000) }},
		{"longest atom", func(g *api.Grammar) { first(g).Pattern[0] = some(1, 100, 100) }},
		{"longest words", func(g *api.Grammar) {
			for len(say(g, api.SayWords).Words) < 20 {
				say(g, api.SayWords).Words = append(say(g, api.SayWords).Words, strings.Repeat("\xff!", 20))
			}
		}},
	}
}

func TestCheck(t *testing.T) {
	for _, b := range good() {
		g := rich()
		b.do(&g)
		if e := text.Check(g); e != api.OK {
			t.Errorf("%s: %d", b.name, e)
		}
	}
	all := append(append(badParts(), badConventions()...), badSays()...)
	for _, b := range all {
		g := rich()
		b.do(&g)
		refused(t, b.name, g, "1", api.ErrArg)
	}
	refused(t, "zero", api.Grammar{}, "", api.ErrArg)
}

// refused checks that all functions return an error, and nothing else.
func refused(t *testing.T, name string, g api.Grammar, written string, want api.Errno) {
	t.Helper()
	if e := text.Check(g); want == api.ErrArg && e != want {
		t.Errorf("%s: Check %d", name, e)
	}
	if l, e := text.Fits(g, written, 0, 0); l != nil || e != want {
		t.Errorf("%s: Fits %v %d", name, l, e)
	}
	if r, c, e := text.Best(g, written); r.Steps != nil || r.Cost != 0 || c != nil || e != want {
		t.Errorf("%s: Best %v %v %d", name, r, c, e)
	}
	if l, e := text.Readings(g, written, 1); l != nil || e != want {
		t.Errorf("%s: Readings %v %d", name, l, e)
	}
	if l, e := text.Words(g, written); l != nil || e != want {
		t.Errorf("%s: Words %v %d", name, l, e)
	}
	if text.Verify(g, written, 0, []api.Value{{Last: -1}}) {
		t.Errorf("%s: Verify", name)
	}
	if l, e := text.Rivals(g, written); l != nil || e != want {
		t.Errorf("%s: Rivals %v %d", name, l, e)
	}
	if n, e := text.Gap(g, written); n != 0 || e != want {
		t.Errorf("%s: Gap %d %d", name, n, e)
	}
	for _, two := range [][2]api.Grammar{{g, grammarE()}, {grammarE(), g}} {
		if l, e := text.Differ(two[0], two[1], []string{"", written}); l != nil || e != want {
			t.Errorf("%s: Differ %v %d", name, l, e)
		}
	}
	if l, e := text.Users(g, []string{"", written}, 0); l != nil || e != want {
		t.Errorf("%s: Users %v %d", name, l, e)
	}
}

// TestErrors: their order, and what the sections say.
func TestErrors(t *testing.T) {
	g, long := grammarE(), strings.Repeat("7", api.MaxText+1)
	refused(t, "long", g, long, api.ErrLong)
	refused(t, "long and not UTF-8", g, long+"\xff", api.ErrLong)
	for _, written := range []string{"\xff", "7\xc3", "\xed\xa0\x80", "\xc0\x80", "7\xf4\x90\x80\x80"} {
		refused(t, "not UTF-8", g, written, api.ErrText)
	}
	wrong := copyGrammar(g)
	wrong.Conventions[0].Cost = -1
	refused(t, "wrong, not UTF-8", wrong, "\xff", api.ErrArg)
	for written, want := range map[string]api.Errno{long: api.ErrLong, "\xff": api.ErrArg, "7": api.ErrArg} {
		for _, n := range []int{-1, 5, 1 << 62, -1 << 63} {
			if l, e := text.Fits(g, written, n, 0); l != nil || e != want {
				t.Errorf("Fits of convention %d: %v %d", n, l, e)
			}
			if l, e := text.Users(g, []string{"7", written}, n); l != nil || e != want {
				t.Errorf("Users of convention %d: %v %d", n, l, e)
			}
		}
		for _, n := range []int{-1, api.MaxReadings + 1, 1 << 62, -1 << 63} {
			if l, e := text.Readings(g, written, n); l != nil || e != want {
				t.Errorf("Readings %d: %v %d", n, l, e)
			}
		}
		if text.Check(wrong) != api.ErrArg {
			t.Error("Check")
		}
	}
	// A place that is none comes after ErrText.
	if l, e := text.Fits(g, "\xff", 0, 9); l != nil || e != api.ErrText {
		t.Errorf("Fits: %v %d", l, e)
	}
	if l, e := text.Fits(g, "7", 0, 2); l != nil || e != api.ErrArg {
		t.Errorf("Fits: %v %d", l, e)
	}
	for _, at := range []int{0, 1} {
		if _, e := text.Fits(g, "7", 0, at); e != api.OK {
			t.Errorf("Fits at %d: %d", at, e)
		}
	}
}

func TestCorpusErrors(t *testing.T) {
	g, wrong, long := grammarE(), api.Grammar{}, strings.Repeat("7", api.MaxText+1)
	tooMany := make([]string, api.MaxCorpus+1)
	for _, c := range []struct {
		g      api.Grammar
		corpus []string
		want   api.Errno
	}{
		{g, tooMany, api.ErrLong}, {wrong, tooMany, api.ErrLong}, {g, []string{"\xff", long}, api.ErrLong}, {wrong, []string{long}, api.ErrLong},
		{wrong, []string{"\xff"}, api.ErrArg}, {wrong, nil, api.ErrArg}, {g, []string{"7", "\xff"}, api.ErrText},
		{g, tooMany[1:], api.OK}, {g, nil, api.OK}, {g, []string{long[1:]}, api.OK},
	} {
		if l, e := text.Differ(c.g, g, c.corpus); len(l) != 0 || e != c.want {
			t.Errorf("Differ: %v %d, not %d", l, e, c.want)
		}
		if l, e := text.Differ(g, c.g, c.corpus); len(l) != 0 || e != c.want {
			t.Errorf("Differ: %v %d, not %d", l, e, c.want)
		}
		if l, e := text.Users(c.g, c.corpus, 1); len(l) != 0 || e != c.want {
			t.Errorf("Users: %v %d, not %d", l, e, c.want)
		}
	}
}
