package text_test

import (
	"slices"
	"strings"
	"testing"

	"declaim/api"
	"declaim/text"
)

func isWords(t *testing.T, g api.Grammar, written, want string) {
	t.Helper()
	got, e := text.Words(g, written)
	if e != api.OK || !slices.Equal(got, strings.Fields(want)) {
		t.Errorf("%q: %q %d, not %q", written, got, e, want)
	}
}

// fitting lists where pieces end, and what is said, as "To words".
func fitting(t *testing.T, g api.Grammar, written string, convention, at int) map[int]string {
	t.Helper()
	steps, e := text.Fits(g, written, convention, at)
	if e != api.OK {
		t.Errorf("%q: Fits %d", written, e)
	}
	ends := map[int]string{}
	for i, s := range steps {
		if s.Convention != convention || s.From != at || i > 0 && s.To <= steps[i-1].To {
			t.Errorf("%q: %+v", written, steps)
		}
		ends[s.To] = strings.Join(s.Words, " ")
	}
	return ends
}

func isFitting(t *testing.T, name string, got map[int]string, want map[int]string) {
	t.Helper()
	if len(got) != len(want) {
		t.Errorf("%s: %v, not %v", name, got, want)
	}
	for to, words := range want {
		if said, ok := got[to]; !ok || said != words {
			t.Errorf("%s: %v, not %v", name, got, want)
		}
	}
}

func TestExamples(t *testing.T) {
	g := grammarE()
	isWords(t, g, "7 kg", "seven kilos")
	isWords(t, g, "1234", "one two hundreds three ty four")
	isWords(t, g, "", "")
	best, certificate, e := text.Best(g, "7")
	if e != api.OK || best.Cost != 1 || len(best.Steps) != 1 || !sameStep(best.Steps[0], api.Step{To: 1, Words: []string{"seven"}}) {
		t.Errorf("7: %+v %d", best, e)
	}
	if !slices.Equal(certificate, []api.Value{{At: 0, Last: -1, Rest: 1}, {At: 1, Last: 0, Rest: 0}, {At: 1, Last: 4, Rest: 0}}) {
		t.Errorf("7: %v", certificate)
	}
	readings, e := text.Readings(g, "12", 5)
	if e != api.OK || len(readings) != 5 {
		t.Fatalf("12: %v %d", readings, e)
	}
	for i, cost := range []int{1, 2, 2, 3, 3} {
		want := "one two"
		if i == 0 {
			want = "one ty two"
		}
		if readings[i].Cost != cost || strings.Join(wordsOf(readings[i]), " ") != want {
			t.Errorf("12: reading %d: %+v", i, readings[i])
		}
	}
	rivals, e := text.Rivals(g, "kg")
	if e != api.OK || !slices.Equal(rivals, []api.Rival{{From: 0, To: 1, Convention: 1, Loss: 5}, {From: 0, To: 2, Convention: 1, Loss: 2}}) {
		t.Errorf("kg: %v %d", rivals, e)
	}
	if gap, e := text.Gap(g, "7!"); gap != 1 || e != api.OK {
		t.Errorf("7!: %d %d", gap, e)
	}
	unreadable(t, g, "7!")
	h := copyGrammar(g)
	h.Conventions[3].Cost = 9
	differ, e := text.Differ(g, h, []string{"7 kg", "7"})
	isList(t, "Differ", differ, e, 0)
}

// TestFourReadings: which they are, and in which order.
func TestFourReadings(t *testing.T) {
	readings, _ := text.Readings(grammarE(), "12", api.MaxReadings)
	var shapes [][2]int
	for _, r := range readings {
		shapes = append(shapes, [2]int{r.Steps[0].Convention, r.Steps[0].To})
	}
	if !slices.Equal(shapes, [][2]int{{0, 2}, {0, 1}, {4, 2}, {0, 1}, {4, 1}, {4, 1}}) {
		t.Errorf("%v", shapes)
	}
	if readings[1].Steps[1].Convention != 0 || readings[3].Steps[1].Convention != 4 || readings[5].Cost != 4 {
		t.Errorf("%+v", readings)
	}
}

// TestContexts: a context costs once for each pair that it holds for.
func TestContexts(t *testing.T) {
	g := grammarE()
	for written, want := range map[string]int{"": 0, " ": 0, "  ": 5, "   ": 10, "7  7": 7, "7 7 7": 3} {
		if r, _, e := text.Best(g, written); r.Cost != want || e != api.OK {
			t.Errorf("%q: %d %d, not %d", written, r.Cost, e, want)
		}
	}
	g.Contexts = []api.Context{{Left: -1, Right: 2, Cost: 10}, {Left: 0, Right: -1, Cost: 100}, {Left: -1, Right: -1, Cost: 1000}, {Left: 0, Right: 2, Cost: 10000}, {Left: 0, Right: 2, Cost: 10000}}
	for written, want := range map[string]int{" ": 0, "7": 1, "  ": 1010, "7 ": 1012, " 7": 1001} {
		if r, _, e := text.Best(g, written); r.Cost != want || e != api.OK {
			t.Errorf("%q: %d %d, not %d", written, r.Cost, e, want)
		}
	}
	if readings, e := text.Readings(g, "7 ", 9); e != api.OK || len(readings) != 2 || readings[1].Cost != 21111 {
		t.Errorf("all contexts: %v %d", readings, e)
	}
}

// TestDivision: the parts of the first atoms are the longest ones.
func TestDivision(t *testing.T) {
	g := grammarE()
	echo := func(groups ...int) []api.Say {
		var all []api.Say
		for _, group := range groups {
			all = append(all, api.Say{Kind: api.SayEcho, Group: group})
		}
		return all
	}
	for _, c := range []struct {
		name    string
		pattern []api.Atom
		written string
		want    map[int]string
	}{
		{"first", pattern(some(letters, 1, 3), some(letters, 1, 3)), "abcd", map[int]string{2: "a b", 3: "ab c", 4: "abc d"}},
		{"least", pattern(some(letters, 2, 3), some(letters, 2, 2)), "abcd", map[int]string{4: "ab cd"}},
		{"literal between", pattern(some(letters, 1, 5), exactly("a"), some(letters, 1, 5)), "babab", map[int]string{3: "b b", 4: "b ba", 5: "bab b"}},
		{"literal alone", pattern(exactly("ab"), some(letters, 1, 1), exactly("\u20ac"), some(letters, 1, 1)), "abz\u20acy", map[int]string{7: "z y"}},
		{"too few", pattern(some(letters, 3, 9), some(letters, 1, 1)), "abc", nil},
		{"another sort", pattern(some(letters, 1, 9), some(digits, 1, 9)), "ab1c", map[int]string{3: "ab 1"}},
		{"literal that is not there", pattern(some(letters, 1, 2), exactly("cd"), some(letters, 1, 1)), "abc", nil},
	} {
		g.Conventions[0] = api.Convention{Pattern: c.pattern, Says: echo(0, 1)}
		isFitting(t, c.name, fitting(t, g, c.written, 0, 0), c.want)
	}
	three := pattern(some(letters, 1, 2), some(letters, 1, 2), some(letters, 1, 2))
	g.Conventions[0] = api.Convention{Pattern: three, Says: echo(2, 0, 1, 0)}
	isFitting(t, "three", fitting(t, g, "abcdefg", 0, 1), map[int]string{4: "d b c b", 5: "e bc d bc", 6: "f bc de bc", 7: "fg bc de bc"})
}

// TestFirstDivisionAlone: if what it divides cannot be said, no other division is tried.
func TestFirstDivisionAlone(t *testing.T) {
	g := grammarE()
	g.Conventions[0] = api.Convention{Pattern: pattern(some(letters, 1, 2), some(letters, 1, 2)), Says: says(api.Say{Kind: api.SayRow, Group: 1})}
	// The first division of kgkg is kg and kg, the one of xkg is xk and g.
	isFitting(t, "sayable", fitting(t, g, "kgkg", 0, 0), map[int]string{4: "kilos"})
	isFitting(t, "not sayable", fitting(t, g, "xkg", 0, 0), nil)
}

// TestCharacters: a character counts once, however many bytes it has.
func TestCharacters(t *testing.T) {
	g := grammarE()
	g.Sorts[letters] = []api.Span{{From: 0xe9, To: 0xe9}, {From: 0x20ac, To: 0x20ac}, {From: 0x1F600, To: 0x10FFFF}}
	written := "\u00e9\u20ac\U0001F600\u00e9"
	g.Conventions[1].Pattern = pattern(some(letters, 2, 3))
	isFitting(t, "beginning", fitting(t, g, written, 1, 0), map[int]string{5: "\u00e9\u20ac", 9: "\u00e9\u20ac\U0001F600"})
	isFitting(t, "inside", fitting(t, g, written, 1, 5), map[int]string{11: "\U0001F600\u00e9"})
	isFitting(t, "end", fitting(t, g, written, 1, 11), nil)
	for _, at := range []int{1, 3, 4, 6, 8, 10, 12, -1, 1 << 62, -1 << 63} {
		if steps, e := text.Fits(g, written, 1, at); e != api.ErrArg || steps != nil {
			t.Errorf("no place %d: %v %d", at, steps, e)
		}
	}
	// A replacement character that is written is a character as others are.
	g.Sorts[letters] = []api.Span{{From: 0xFFFD, To: 0xFFFD}}
	isFitting(t, "U+FFFD", fitting(t, g, "\uFFFD\uFFFD", 1, 0), map[int]string{6: "\uFFFD\uFFFD"})
}

func TestSides(t *testing.T) {
	g := grammarE()
	c := &g.Conventions[0]
	for _, n := range []struct {
		before, after []int
		written       string
		at            int
		want          []int
	}{
		{nil, nil, "a1a", 1, []int{2}},
		{[]int{-1}, nil, "1", 0, []int{1}},
		{[]int{-1}, nil, "a1", 1, nil},
		{[]int{letters}, nil, "a1", 1, []int{2}},
		{[]int{letters}, nil, "1", 0, nil},
		{[]int{letters, -1}, nil, "1", 0, []int{1}},
		{[]int{blank, letters}, nil, "a1", 1, []int{2}},
		{[]int{blank}, nil, "a1", 1, nil},
		{[]int{digits}, nil, "123", 1, []int{2, 3}},
		{nil, []int{-1}, "123", 0, []int{3}},
		{nil, []int{-1}, "12a", 0, nil},
		{nil, []int{digits}, "123", 0, []int{1, 2}},
		{nil, []int{letters}, "12a", 0, []int{2}},
		{nil, []int{letters}, "12", 0, nil},
		{nil, []int{letters, -1, -1}, "12", 0, []int{2}},
		{[]int{-1}, []int{-1}, "12", 0, []int{2}},
		{[]int{-1, letters}, []int{blank}, "a1 ", 1, []int{2}},
		{[]int{blank}, []int{blank}, "\u20ac1 ", 3, nil},
	} {
		c.Before, c.After = n.before, n.after
		steps, e := text.Fits(g, n.written, 0, n.at)
		var ends []int
		for _, s := range steps {
			ends = append(ends, s.To)
		}
		isList(t, n.written, ends, e, n.want...)
	}
}
