package text_test

import (
	"math"
	"math/rand/v2"
	"reflect"
	"slices"
	"strings"
	"testing"

	"declaim/api"
	"declaim/text"
)

// TestVerify: each sentence of the definition alone.
func TestVerify(t *testing.T) {
	g, written := grammarE(), "7 k"
	_, full, _ := text.Best(g, written)
	want := []api.Value{{At: 0, Last: -1, Rest: 4}, {At: 1, Last: 0, Rest: 3}, {At: 1, Last: 4, Rest: 3}, {At: 2, Last: 2, Rest: 3}, {At: 3, Last: 1, Rest: 0}}
	if !slices.Equal(full, want) {
		t.Fatalf("certificate: %v", full)
	}
	with := func(i int, v api.Value) []api.Value {
		bent := slices.Clone(full)
		bent[i] = v
		return bent
	}
	insert := func(i int, v api.Value) []api.Value { return slices.Insert(slices.Clone(full), i, v) }
	for _, c := range []struct {
		name        string
		cost        int
		certificate []api.Value
		want        bool
	}{
		{"as it is", 4, full, true},
		{"a smaller cost", 3, full, true},
		{"0", 0, full, true},
		{"below 0", -1 << 63, full, true},
		{"a greater cost", 5, full, false},
		{"the greatest cost", math.MaxInt, full, false},
		{"none", 0, nil, false},
		{"without the beginning", 0, full[1:], false},
		{"without the end", 4, full[:4], false},
		{"without a place", 4, append(slices.Clone(full[:3]), full[4]), false},
		{"smaller rest", 3, with(0, api.Value{Last: -1, Rest: 3}), true},
		{"smaller rest, same cost", 4, with(0, api.Value{Last: -1, Rest: 3}), false},
		{"greater rest", 4, with(0, api.Value{Last: -1, Rest: 5}), false},
		{"greatest rest", 4, with(1, api.Value{At: 1, Last: 0, Rest: math.MaxInt}), false},
		{"rest below 0", 0, with(1, api.Value{At: 1, Last: 0, Rest: -1}), false},
		{"rest at the end", 4, with(4, api.Value{At: 3, Last: 1, Rest: 1}), false},
		{"not increasing", 4, with(1, api.Value{At: 1, Last: 4, Rest: 3}), false},
		{"falling", 4, []api.Value{full[0], full[2], full[1], full[3], full[4]}, false},
		{"falling places", 4, []api.Value{full[0], full[1], full[2], full[4], full[3]}, false},
		{"twice", 4, insert(0, full[0]), false},
		{"an extra value", 4, insert(3, api.Value{At: 2, Last: 0, Rest: 3}), true},
		{"an extra value with too much", 4, insert(3, api.Value{At: 2, Last: 0, Rest: 4}), false},
		{"an extra value at the end", 4, insert(5, api.Value{At: 3, Last: 3}), true},
		{"an extra value at the end with a rest", 4, insert(5, api.Value{At: 3, Last: 3, Rest: 1}), false},
		{"an extra value at the beginning", 4, insert(1, api.Value{At: 0, Last: 3, Rest: 4}), true},
		{"no convention", 4, insert(5, api.Value{At: 3, Last: 5}), false},
		{"-1 at another place", 4, insert(1, api.Value{At: 1, Last: -1}), false},
		{"-2", 4, insert(0, api.Value{At: 0, Last: -2}), false},
		{"behind the end", 4, insert(5, api.Value{At: 4, Last: 0}), false},
		{"before the beginning", 4, insert(0, api.Value{At: -1, Last: 0}), false},
	} {
		if got := text.Verify(g, written, c.cost, c.certificate); got != c.want {
			t.Errorf("%s: %v", c.name, got)
		}
	}
	if text.Verify(g, "7\u20ac", 0, []api.Value{{Last: -1}, {At: 2, Last: 0}}) {
		t.Error("a place inside of a character")
	}
}

// TestVerifyOfFew: texts without steps and without readings.
func TestVerifyOfFew(t *testing.T) {
	g := grammarE()
	start := []api.Value{{Last: -1}}
	if !text.Verify(g, "", 0, start) || text.Verify(g, "", 1, start) || text.Verify(g, "", 0, []api.Value{{Last: -1, Rest: 1}}) {
		t.Error("the empty text")
	}
	much := []api.Value{{Last: -1, Rest: math.MaxInt}}
	if !text.Verify(g, "!", math.MaxInt, much) || !text.Verify(g, "7!", 9, much) || text.Verify(g, "7", 0, much) {
		t.Error("no reading costs less")
	}
	for _, written := range []string{"\xff", strings.Repeat("7", api.MaxText+1)} {
		if text.Verify(g, written, 0, start) {
			t.Errorf("%q", written)
		}
	}
	// What a context adds counts, but not at the beginning.
	g.Contexts = []api.Context{{Left: -1, Right: -1, Cost: 2}}
	_, certificate, _ := text.Best(g, "a 7")
	if r := certificate[0].Rest; r != 8 || !text.Verify(g, "a 7", 8, certificate) {
		t.Errorf("contexts: %v", certificate)
	}
}

// TestPrefixes: more readings begin with fewer ones.
func TestPrefixes(t *testing.T) {
	g := grammarE()
	all, e := text.Readings(g, "kgkg 1234", api.MaxReadings)
	if e != api.OK || len(all) != api.MaxReadings {
		t.Fatalf("%d readings, %d", len(all), e)
	}
	for i, r := range all {
		if i > 0 && r.Cost < all[i-1].Cost {
			t.Errorf("reading %d costs less", i)
		}
	}
	for n := range 30 {
		fewer, e := text.Readings(g, "kgkg 1234", n)
		if e != api.OK || !slices.EqualFunc(fewer, all[:n], sameReading) {
			t.Errorf("%d readings: %v %d", n, fewer, e)
		}
	}
}

func shapeOf(r api.Reading) []api.Step {
	steps := slices.Clone(r.Steps)
	for i := range steps {
		steps[i].Words = nil
	}
	return steps
}

func TestConsequences(t *testing.T) {
	reads := 0
	forRandom(t, 400, 40, func(r *rand.Rand, g api.Grammar, written string) {
		best, _, e := text.Best(g, written)
		if e != api.OK {
			return
		}
		reads++
		many := copyGrammar(g)
		factor := 1 + r.IntN(300000)
		for i := range many.Conventions {
			many.Conventions[i].Cost *= factor
		}
		for i := range many.Contexts {
			many.Contexts[i].Cost *= factor
		}
		if b, _, e := text.Best(many, written); e != api.OK || b.Cost != best.Cost*factor || !reflect.DeepEqual(shapeOf(b), shapeOf(best)) {
			t.Errorf("%q, costs times %d: %v %d, not %v", written, factor, b, e, best)
		}
		more := copyGrammar(g)
		more.Conventions = append(more.Conventions, randomConvention(r, g))
		more.Conventions[len(g.Conventions)].Cost = best.Cost + 1
		if b, _, e := text.Best(more, written); e != api.OK || !sameReading(b, best) {
			t.Errorf("%q, one convention more: %v %d, not %v", written, b, e, best)
		}
	})
	if reads < 100 {
		t.Errorf("only %d texts", reads)
	}
}

// TestConcatenation: without Before, After and contexts, two texts together cost no more than both alone.
func TestConcatenation(t *testing.T) {
	reads := 0
	forRandom(t, 300, 20, func(r *rand.Rand, g api.Grammar, written string) {
		g.Contexts = nil
		for i := range g.Conventions {
			g.Conventions[i].Before, g.Conventions[i].After = nil, nil
		}
		other := randomText(r, 20)
		one, _, e := text.Best(g, written)
		two, _, f := text.Best(g, other)
		if e != api.OK || f != api.OK {
			return
		}
		reads++
		both, _, e := text.Best(g, written+other)
		if e != api.OK || both.Cost > one.Cost+two.Cost {
			t.Errorf("%q and %q: %d and %d, together %d %d", written, other, one.Cost, two.Cost, both.Cost, e)
		}
	})
	if reads < 100 {
		t.Errorf("only %d texts", reads)
	}
}

func TestDifferAndUsers(t *testing.T) {
	g := grammarE()
	corpus := []string{"7 kg", "7", "", "!", "kg", "ab", "12 12", "7  kg"}
	for _, c := range []struct {
		name string
		h    func(h *api.Grammar)
		want []int
	}{
		{"equal", func(h *api.Grammar) {}, nil},
		{"row", func(h *api.Grammar) { h.Tables[0][0].Words = []string{"kilo", "grams"} }, []int{0, 4, 7}},
		{"a word less", func(h *api.Grammar) { h.Tables[0][0].Words = nil }, []int{0, 4, 7}},
		{"system", func(h *api.Grammar) { h.System.Terms[2] = always("deux") }, []int{6}},
		{"a reading in one alone", func(h *api.Grammar) { h.Conventions[2].Pattern = pattern(some(letters, 1, 1), exactly("!")) }, []int{0, 6, 7}},
		{"a reading of nothing", func(h *api.Grammar) { h.Conventions[2].Pattern = pattern(exactly("!")) }, []int{0, 3, 6, 7}},
		{"other steps with the same words", func(h *api.Grammar) { h.Conventions[0].Pattern[0].Most, h.Conventions[4].Cost = 2, 0 }, []int{6}},
		{"other costs with the same words", func(h *api.Grammar) { h.Conventions[2].Cost = 7 }, nil},
	} {
		h := copyGrammar(g)
		h.System = systemE()
		c.h(&h)
		got, e := text.Differ(g, h, corpus)
		isList(t, c.name, got, e, c.want...)
		got, e = text.Differ(h, g, corpus)
		isList(t, c.name, got, e, c.want...)
	}
	for convention, want := range [][]int{{0, 1, 6, 7}, {5}, {0, 6, 7}, {0, 4, 7}, nil} {
		got, e := text.Users(g, corpus, convention)
		isList(t, "Users", got, e, want...)
	}
}

// TestMemory: no argument is changed, and results share no memory.
func TestMemory(t *testing.T) {
	g, written := rich(), "1zab7m\u00e91 cm12 cm"
	g.Conventions[0].Before, g.Conventions[0].After = nil, nil
	before := copyGrammar(g)
	want, _ := text.Readings(g, written, 20)
	corpus := []string{written, "7"}
	for range 2 {
		readings, e := text.Readings(g, written, 20)
		if e != api.OK || len(readings) < 2 || !slices.EqualFunc(readings, want, sameReading) {
			t.Fatalf("%v %d", readings, e)
		}
		best, certificate, _ := text.Best(g, written)
		if !sameReading(best, want[0]) || !text.Verify(g, written, best.Cost, certificate) {
			t.Errorf("%v", best)
		}
		for _, r := range append(readings, best) {
			for i := range r.Steps {
				for j := range r.Steps[i].Words {
					r.Steps[i].Words[j] += "!" // twice, if it were shared
					if strings.Count(r.Steps[i].Words[j], "!") != 1 {
						t.Error("shared words")
					}
				}
				r.Steps[i].Convention = 99
			}
		}
		words, _ := text.Words(g, written)
		for i := range words {
			words[i] = "x"
		}
		steps, _ := text.Fits(g, "123", 5, 0)
		steps[0].Words[0] = "x"
		if steps[1].Words[0] == "x" {
			t.Error("shared words of Fits")
		}
		certificate[0].Rest = 1000
		if text.Verify(g, written, best.Cost, certificate) || certificate[0].Rest != 1000 {
			t.Error("Verify changes")
		}
		text.Rivals(g, written)
		text.Differ(g, g, corpus)
		text.Users(g, corpus, 1)
	}
	if !reflect.DeepEqual(g, before) || corpus[0] != written {
		t.Error("an argument has changed")
	}
}

// TestLongTexts: the longest texts, with patterns that can be divided in very many ways.
func TestLongTexts(t *testing.T) {
	g := grammarE()
	g.Conventions[1] = api.Convention{Pattern: manyAtoms(api.MaxAtoms), Says: says(api.Say{Kind: api.SayEcho, Group: 11}), Cost: 3}
	for i := range g.Conventions[1].Pattern {
		g.Conventions[1].Pattern[i] = some(letters, 1, 100)
	}
	isFitting(t, "the last part is too long", fitting(t, g, strings.Repeat("a", 11*100+41), 1, 0), echoes(11, 11*100+40))
	unreadable(t, g, strings.Repeat("a", api.MaxText-1)+"!")
	written := strings.Repeat("a", api.MaxText)
	best, certificate, e := text.Best(g, written)
	if e != api.OK || best.Cost != 6 || len(best.Steps) != 2 || best.Steps[0].To != 860 {
		t.Errorf("%v %d", best, e)
	}
	if !text.Verify(g, written, 6, certificate) || text.Verify(g, written, 7, certificate) {
		t.Error("Verify")
	}
	g = grammarE()
	written = strings.Repeat("7 kg 12 ", api.MaxText/8)
	readings, e := text.Readings(g, written, api.MaxReadings)
	if e != api.OK || len(readings) != api.MaxReadings || len(readings[199].Steps) < 1500 {
		t.Errorf("%d readings, %d", len(readings), e)
	}
	if gap, e := text.Gap(g, written[:1999]+"!"); gap != 1999 || e != api.OK {
		t.Errorf("gap %d %d", gap, e)
	}
}

// echoes are the pieces of equal letters for a pattern of so many parts of up to 100 letters and one of up to 40 that is echoed.
func echoes(parts, longest int) map[int]string {
	want := map[int]string{}
	for to := parts + 1; to <= longest; to++ {
		want[to] = strings.Repeat("a", max(1, to-100*parts))
	}
	return want
}

// oddNumber is at a bound, near one, or anywhere.
func oddNumber(r *rand.Rand) int {
	odd := []int{-1 << 63, -2, -1, -1, 0, 0, 0, 1, 1, 2, 3, 6, 13, 40, 100, 101, 1000000, 1000001, 1<<63 - 1}
	if r.IntN(30) == 0 {
		return int(r.Uint64())
	}
	return odd[r.IntN(len(odd))]
}

// spoil changes a few fields of a grammar to anything.
func spoil(r *rand.Rand, g *api.Grammar) {
	for range 1 + r.IntN(3) {
		c := &g.Conventions[r.IntN(len(g.Conventions))]
		fields := []*int{&c.Cost, &g.System.Top, &g.System.Genders, &g.Nouns[0].Gender}
		for i := range c.Pattern {
			fields = append(fields, &c.Pattern[i].Sort, &c.Pattern[i].Least, &c.Pattern[i].Most)
		}
		for i := range c.Says {
			s := &c.Says[i]
			fields = append(fields, (*int)(&s.Kind), &s.Group, &s.Set, &s.Gender, &s.Case, &s.Table, &s.Term)
		}
		for i := range g.Contexts {
			fields = append(fields, &g.Contexts[i].Left, &g.Contexts[i].Right, &g.Contexts[i].Cost)
		}
		for _, sides := range [][]int{c.Before, c.After} {
			for i := range sides {
				fields = append(fields, &sides[i])
			}
		}
		*fields[r.IntN(len(fields))] = oddNumber(r)
		if r.IntN(10) == 0 {
			c.Pattern = nil
		}
	}
}

// TestAnyValue: every function returns for all arguments, and refuses what Check refuses.
func TestAnyValue(t *testing.T) {
	valid := 0
	for seed := range uint64(3000) {
		r := rand.New(rand.NewPCG(seed, 3))
		g := copyGrammar(randomGrammar(r))
		written := randomText(r, 8)
		spoil(r, &g)
		if text.Check(g) != api.OK {
			refused(t, "spoiled", g, written, api.ErrArg)
			continue
		}
		valid++
		n := oddNumber(r)
		text.Fits(g, written, n, oddNumber(r))
		text.Best(g, written)
		text.Readings(g, written, n)
		text.Words(g, written)
		text.Verify(g, written, n, []api.Value{{At: oddNumber(r), Last: oddNumber(r), Rest: oddNumber(r)}})
		text.Verify(g, written, n, []api.Value{{Last: -1, Rest: oddNumber(r)}, {At: oddNumber(r), Last: oddNumber(r), Rest: oddNumber(r)}})
		text.Rivals(g, written)
		text.Gap(g, written)
		text.Differ(g, grammarE(), []string{written, "7"})
		text.Users(g, []string{written}, n)
	}
	if valid < 300 {
		t.Errorf("only %d grammars are valid", valid)
	}
}
