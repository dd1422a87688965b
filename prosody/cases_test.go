package prosody_test

import (
	"testing"

	"declaim/api"
	"declaim/prosody"
)

// The edge cases that the chapter names.

func TestOnsets(t *testing.T) {
	s := api.Sounds{Sonority: []int{1, 2, 3, 4, 9}, Peak: 5, Onsets: [][]int{{4}, {2, 4}, {1, 2, 3, 4}, {3}, {3}}}
	for _, c := range []struct {
		phones []int
		border int
	}{
		{[]int{5, 5}, 1},
		{[]int{5, 1, 5}, 2},          // 1 alone is no onset
		{[]int{5, 4, 5}, 1},          // all of them
		{[]int{5, 3, 4, 5}, 2},       // 3 4 is none
		{[]int{5, 2, 4, 5}, 1},       // longer than 4
		{[]int{5, 1, 2, 3, 4, 5}, 1}, // of 4 phones
		{[]int{5, 2, 3, 4, 5}, 3},    // 2 3 4 is only the end of one
		{[]int{5, 1, 1, 2, 3, 4, 5}, 2},
		{[]int{5, 4, 1, 5}, 3}, // an onset is at the end
	} {
		n := len(c.phones)
		isOK(t, "Syllables", results(prosody.Syllables(s, c.phones)), []api.Syllable{{From: 0, Nucleus: 0, To: c.border}, {From: c.border, Nucleus: n - 1, To: n}})
	}
}

func TestNuclei(t *testing.T) {
	// a sonority of the peak is enough; phones before the first nucleus and behind the last one are of their syllables, whatever they are
	s := api.Sounds{Sonority: []int{4, 5, 6}, Peak: 5, Onsets: [][]int{{1}}}
	isOK(t, "peak", results(prosody.Syllables(s, []int{1, 1, 2, 3, 1, 1})), []api.Syllable{{From: 0, Nucleus: 2, To: 3}, {From: 3, Nucleus: 3, To: 6}})
	all := api.Sounds{Sonority: []int{0}}
	isOK(t, "all are nuclei", results(prosody.Syllables(all, []int{1, 1})), []api.Syllable{{From: 0, Nucleus: 0, To: 1}, {From: 1, Nucleus: 1, To: 2}})
	isOK(t, "one without a nucleus", results(prosody.Syllables(s, []int{1})), []api.Syllable{{From: 0, Nucleus: -1, To: 1}})
}

func TestStressStyles(t *testing.T) {
	light := make([]bool, 6)
	for _, c := range []struct {
		name  string
		style api.StressStyle
		heavy []bool
		main  int
		sides []int
	}{
		{"first", api.StressStyle{}, light, 0, nil},
		{"last", api.StressStyle{FromEnd: true}, light, 5, nil},
		{"skip from the beginning", api.StressStyle{Skip: 2, Place: 1}, light, 3, nil},
		{"skip from the end", api.StressStyle{FromEnd: true, Skip: 2, Place: 1}, light, 2, nil},
		{"as many as are skipped", api.StressStyle{Skip: 2}, light[:2], 0, nil},
		{"one more than is skipped", api.StressStyle{Skip: 2}, light[:3], 2, nil},
		{"as many, from the end", api.StressStyle{FromEnd: true, Skip: 1}, light[:1], 0, nil},
		{"too few for the place", api.StressStyle{Place: 5}, light[:3], 2, nil},
		{"too few from the end", api.StressStyle{FromEnd: true, Skip: 1, Place: 5}, light[:3], 0, nil},
		{"the last place", api.StressStyle{Place: 5}, light, 5, nil},
		{"heavy ones do not matter", api.StressStyle{}, []bool{false, true}, 0, nil},
		{"the first heavy one", api.StressStyle{Heavy: true, Place: 1}, []bool{false, false, true, true}, 2, nil},
		{"the first one from the end", api.StressStyle{Heavy: true, FromEnd: true}, []bool{true, true, false, false}, 1, nil},
		{"a skipped heavy one", api.StressStyle{Heavy: true, Skip: 1, Place: 1}, []bool{true, false, false}, 2, nil},
		{"no heavy one", api.StressStyle{Heavy: true, Place: 1}, light, 1, nil},
		{"side stresses", api.StressStyle{FromEnd: true, Step: 2}, light, 5, []int{1, 3}},
		{"side stresses to the first one", api.StressStyle{Place: 4, Step: 2}, light, 4, []int{0, 2}},
		{"steps of 3", api.StressStyle{FromEnd: true, Step: 3}, light, 5, []int{2}},
		{"a skipped side stress", api.StressStyle{Skip: 2, Step: 2}, light, 2, []int{0}},
		{"no side stress", api.StressStyle{Place: 1, Step: 2}, light, 1, nil},
	} {
		isOK(t, c.name, results(prosody.Stress(c.style, c.heavy)), c.main, c.sides)
	}
}

func TestKindsOfRanks(t *testing.T) {
	// lengths 2 3 4 5, gaps 1 2 3, the second and the last word in focus
	words := []api.SpokenWord{{Syllables: 2, Gap: 1}, {Syllables: 3, Gap: 2, Focus: true}, {Syllables: 4, Gap: 3}, {Syllables: 5, Gap: 9, Focus: true}}
	breaks := []int{1, 0, 2}
	for _, c := range []struct {
		rank api.Rank
		want int
	}{
		{rank(api.RankLong, 1, 4), 4}, // phrases of 2, 7 and 5
		{rank(api.RankLong, 1, 7), 0},
		{rank(api.RankLong, 2, 4), 6}, // phrases of 9 and 5
		{rank(api.RankShort, 1, 6), 5},
		{rank(api.RankShort, 1, 2), 0},
		{rank(api.RankShort, 2, 10), 6},
		{rank(api.RankCut, 1, 1), 0}, // gaps of 1 and 3
		{rank(api.RankCut, 1, 2), 1},
		{rank(api.RankCut, 1, 400), 2},
		{rank(api.RankCut, 2, 3), 0},
		{rank(api.RankCut, 2, 4), 1},
		{rank(api.RankMissed, 1, 2), 1}, // a gap of 2
		{rank(api.RankMissed, 1, 3), 0},
		{rank(api.RankMissed, 2, 1), 2},
		{rank(api.RankMissed, 2, 2), 1},
		{rank(api.RankMissed, 1, 0), 1},
		{rank(api.RankFocus, 1, 0), 1}, // not the last word
		{rank(api.RankFocus, 2, 400), 1},
		{rank(api.RankBreaks, 1, 0), 2},
		{rank(api.RankBreaks, 1, 1), 1},
		{rank(api.RankBreaks, 1, 2), 0},
		{rank(api.RankBreaks, 2, 0), 1},
		{rank(api.RankBreaks, 2, 400), 0},
	} {
		isOK(t, "Violations", results(prosody.Violations(words, []api.Rank{c.rank}, breaks)), []int{c.want})
	}
	broken := []api.Rank{rank(api.RankFocus, 1, 0), rank(api.RankFocus, 2, 0)}
	isOK(t, "a minor break behind focus", results(prosody.Violations(words, broken, []int{0, 1, 0})), []int{0, 1})
	isOK(t, "a major break behind focus", results(prosody.Violations(words, broken, []int{0, 2, 0})), []int{0, 0})
}

func TestShortSentences(t *testing.T) {
	ranks := []api.Rank{rank(api.RankLong, 1, 0), rank(api.RankShort, 2, 7), rank(api.RankCut, 1, 9), rank(api.RankMissed, 1, 0), rank(api.RankFocus, 1, 0), rank(api.RankBreaks, 1, 0)}
	isOK(t, "no words", results(prosody.Break(nil, ranks)), []int{}, make([]int, 6))
	isOK(t, "no words", results(prosody.Violations(nil, ranks, nil)), make([]int, 6))
	isOK(t, "no words", results(prosody.Compare(nil, ranks, nil, nil)), -1, 0)
	isOK(t, "no words", results(prosody.Marks(nil, nil, api.ActState)), []api.Mark{})
	one := []api.SpokenWord{{Syllables: 5, Gap: 20, Focus: true, Stressed: -1}}
	isOK(t, "a word", results(prosody.Break(one, ranks)), []int{}, []int{5, 2, 0, 0, 0, 0})
	isOK(t, "a word", results(prosody.Violations(one, ranks, []int{})), []int{5, 2, 0, 0, 0, 0})
	isOK(t, "a word", results(prosody.Marks(one, nil, api.ActState)), []api.Mark{{Word: 0, Syllable: 4, Tune: api.TuneFall}})
}

// TestFirstBreaks: of several best breaks, the first ones in lexicographic order.
func TestFirstBreaks(t *testing.T) {
	words := make([]api.SpokenWord, 5)
	for i := range words {
		words[i].Syllables = 2
	}
	for _, c := range []struct {
		ranks []api.Rank
		want  []int
	}{
		{nil, []int{0, 0, 0, 0}},
		{[]api.Rank{rank(api.RankLong, 1, 8)}, []int{0, 0, 0, 1}},
		{[]api.Rank{rank(api.RankLong, 1, 6)}, []int{0, 0, 1, 0}},
		{[]api.Rank{rank(api.RankLong, 2, 8)}, []int{0, 0, 0, 2}},
		{[]api.Rank{rank(api.RankLong, 2, 8), rank(api.RankBreaks, 2, 0)}, []int{0, 0, 0, 2}},
		{[]api.Rank{rank(api.RankBreaks, 2, 0), rank(api.RankLong, 2, 8)}, []int{0, 0, 0, 0}},
		{[]api.Rank{rank(api.RankLong, 2, 8), rank(api.RankLong, 1, 2)}, []int{1, 1, 1, 2}},
		{[]api.Rank{rank(api.RankLong, 1, 2), rank(api.RankBreaks, 1, 2)}, []int{1, 1, 1, 1}},
		{[]api.Rank{rank(api.RankBreaks, 1, 2), rank(api.RankLong, 1, 2)}, []int{0, 0, 1, 1}},
		{[]api.Rank{rank(api.RankMissed, 1, 0)}, []int{1, 1, 1, 1}},
		{[]api.Rank{rank(api.RankMissed, 2, 0)}, []int{2, 2, 2, 2}},
	} {
		violations, _ := prosody.Violations(words, c.ranks, c.want)
		isOK(t, "Break", results(prosody.Break(words, c.ranks)), c.want, violations)
	}
}

func TestAccents(t *testing.T) {
	word := func(stressed int, focus, content bool) api.SpokenWord {
		return api.SpokenWord{Syllables: 3, Stressed: stressed, Focus: focus, Content: content}
	}
	end := api.Mark{Word: 2, Syllable: 2, Tune: api.TuneFall}
	for _, c := range []struct {
		name  string
		words []api.SpokenWord
		want  []api.Mark
	}{
		{"the first one in focus", []api.SpokenWord{word(0, false, true), word(1, true, false), word(2, true, true)}, []api.Mark{{Word: 1, Syllable: 1, Tune: api.TuneFocus}, end}},
		{"focus without stress", []api.SpokenWord{word(0, false, true), word(-1, true, true), word(2, true, false)}, []api.Mark{{Word: 2, Syllable: 2, Tune: api.TuneFocus}, end}},
		{"the last one with content", []api.SpokenWord{word(0, false, true), word(1, false, true), word(2, false, false)}, []api.Mark{{Word: 1, Syllable: 1, Tune: api.TuneAccent}, end}},
		{"content without stress", []api.SpokenWord{word(0, false, true), word(-1, false, true), word(2, false, false)}, []api.Mark{{Word: 0, Syllable: 0, Tune: api.TuneAccent}, end}},
		{"the last one with a stress", []api.SpokenWord{word(0, false, false), word(1, false, false), word(-1, true, true)}, []api.Mark{{Word: 1, Syllable: 1, Tune: api.TuneAccent}, end}},
		{"no stress", []api.SpokenWord{word(-1, true, true), word(-1, true, true), word(-1, false, false)}, []api.Mark{end}},
	} {
		isOK(t, c.name, results(prosody.Marks(c.words, []int{0, 0}, api.ActState)), c.want)
	}
}

func TestTunes(t *testing.T) {
	words := make([]api.SpokenWord, 3)
	for i := range words {
		words[i] = api.SpokenWord{Syllables: 2, Stressed: -1}
	}
	for act, want := range map[api.Act][3]api.Tune{
		api.ActState: {api.TuneKeep, api.TuneFall, api.TuneFall},
		api.ActAsk:   {api.TuneKeep, api.TuneFall, api.TuneRise},
		api.ActList:  {api.TuneRise, api.TuneRise, api.TuneFall},
		api.ActCall:  {api.TuneKeep, api.TuneFall, api.TuneKeep},
	} {
		marks := []api.Mark{{Word: 0, Syllable: 1, Tune: want[0]}, {Word: 1, Syllable: 1, Tune: want[1]}, {Word: 2, Syllable: 1, Tune: want[2]}}
		isOK(t, "Marks", results(prosody.Marks(words, []int{1, 2}, act)), marks)
	}
}

func TestRulesForDurations(t *testing.T) {
	plain := api.Timed{Usual: 300, Least: 100} // 2 milliseconds for each hundredth
	is := func(name string, want int, change func(*api.Timed), rules ...api.DurationRule) {
		t.Helper()
		p := plain
		change(&p)
		isOK(t, name, results(prosody.Duration(p, rules)), want)
	}
	nothing := func(*api.Timed) {}
	stressed := func(p *api.Timed) { p.Stressed = true }
	accented := func(p *api.Timed) { p.Accented = true }
	final := func(level int) func(*api.Timed) { return func(p *api.Timed) { p.Final = level } }
	cluster := func(n int) func(*api.Timed) { return func(p *api.Timed) { p.Cluster = n } }

	is("no rules", 300, nothing)
	is("not stressed", 300, nothing, rule(api.DurationStressed, 0, 50))
	is("stressed", 200, stressed, rule(api.DurationStressed, 9, 50))
	is("plain", 200, nothing, rule(api.DurationPlain, 9, 50))
	is("not plain", 300, stressed, rule(api.DurationPlain, 0, 50))
	is("not accented", 300, stressed, rule(api.DurationAccented, 0, 50))
	is("accented", 200, accented, rule(api.DurationAccented, 9, 50))
	is("not final", 300, final(0), rule(api.DurationFinal, 0, 50))
	is("final, any", 200, final(1), rule(api.DurationFinal, 0, 50))
	is("final, minor", 200, final(1), rule(api.DurationFinal, 1, 50))
	is("final, not major", 300, final(1), rule(api.DurationFinal, 2, 50))
	is("final, major", 200, final(2), rule(api.DurationFinal, 2, 50))
	is("no cluster", 200, cluster(0), rule(api.DurationCluster, 0, 50))
	is("a cluster", 200, cluster(3), rule(api.DurationCluster, 3, 50))
	is("a small cluster", 300, cluster(2), rule(api.DurationCluster, 3, 50))
	is("both", 400, stressed, rule(api.DurationStressed, 0, 300), rule(api.DurationStressed, 0, 50))

	// 100 is 50, then 24.5; halves are rounded up, and the order of rules matters
	is("halves", 150, nothing, rule(api.DurationPlain, 0, 50), rule(api.DurationPlain, 0, 49))
	is("halves, the other way", 150, nothing, rule(api.DurationPlain, 0, 49), rule(api.DurationPlain, 0, 50))
	is("less than a half", 148, nothing, rule(api.DurationPlain, 0, 51), rule(api.DurationPlain, 0, 48))
	is("nothing is left", 100, nothing, rule(api.DurationPlain, 0, 1), rule(api.DurationPlain, 0, 1))

	// never more than 10000 percent, before the next rule
	ten := rule(api.DurationPlain, 0, 1000)
	is("10000 percent", 100+200*100, nothing, ten, ten)
	is("not 100000 percent", 100+200*100, nothing, ten, ten, ten)
	is("half of 10000 percent", 100+200*50, nothing, ten, ten, ten, rule(api.DurationPlain, 0, 50))

	// the duration is rounded, too
	plain = api.Timed{Usual: 101, Least: 100}
	is("half a millisecond", 101, nothing, rule(api.DurationPlain, 0, 50))
	is("less than half a millisecond", 100, nothing, rule(api.DurationPlain, 0, 49))
	plain = api.Timed{Usual: 100, Least: 100}
	is("the least one", 100, nothing, ten, ten)
}

func TestStretching(t *testing.T) {
	for _, c := range []struct {
		name string
		s    stretching
		want []int
	}{
		{"nothing changes", stretching{[]int{5, 7}, []int{5, 0}, []int{1, 9}, 12}, []int{5, 7}},
		{"the later ones are longer", stretching{[]int{5, 5, 5}, []int{0, 0, 0}, []int{2, 2, 2}, 17}, []int{5, 6, 6}},
		{"the earlier ones are shorter", stretching{[]int{5, 5, 5}, []int{0, 0, 0}, []int{2, 2, 2}, 13}, []int{4, 4, 5}},
		{"a least one", stretching{[]int{5, 5, 5}, []int{5, 0, 0}, []int{2, 2, 2}, 9}, []int{5, 2, 2}},
		{"a least one that is greater", stretching{[]int{5, 5}, []int{9, 0}, []int{1, 1}, 14}, []int{9, 5}},
		{"the least ones", stretching{[]int{5, 5}, []int{3, 4}, []int{1, 1}, 7}, []int{3, 4}},
		{"a stiff one", stretching{[]int{5, 5}, []int{0, 0}, []int{1000, 1}, 110}, []int{5, 105}},
		{"a single one", stretching{[]int{5}, []int{0}, []int{3}, 60000}, []int{60000}},
		{"nothing", stretching{[]int{5}, []int{0}, []int{3}, 0}, []int{0}},
		{"no phones", stretching{}, []int{}},
	} {
		isOK(t, c.name, results(prosody.Stretch(c.s.durations, c.s.least, c.s.stiff, c.s.total)), c.want)
		isOK(t, c.name, results(prosody.Settled(c.s.durations, c.s.least, c.s.stiff, c.want)), true)
	}
	// 1 * (2 * 1 - 1) = 1 is won, and 1 * (2 * 0 + 1) = 1 is lost
	isOK(t, "no profit", results(prosody.Settled([]int{5, 5}, []int{0, 0}, []int{1, 1}, []int{6, 5})), true)
	isOK(t, "profit", results(prosody.Settled([]int{5, 5}, []int{0, 0}, []int{1, 1}, []int{7, 5})), false)
	isOK(t, "profit the other way", results(prosody.Settled([]int{5, 5}, []int{0, 0}, []int{1, 1}, []int{5, 7})), false)
	isOK(t, "less than the least one", results(prosody.Settled([]int{5, 5}, []int{7, 0}, []int{1, 1}, []int{7, 5})), true)
}
