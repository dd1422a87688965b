package prosody_test

import (
	"slices"
	"testing"

	"declaim/api"
	"declaim/prosody"
)

const (
	least    = -1 << 63
	greatest = 1<<63 - 1
)

// judge checks that a call is refused, or that it is not.
func judge(t *testing.T, name string, valid bool, got []any) {
	t.Helper()
	if !valid {
		isError(t, name, got, api.ErrArg)
	} else if e := got[len(got)-1]; e != api.OK {
		t.Errorf("%s: error %d", name, e)
	}
}

// judgeNumbers checks the bounds of a number from both sides.
func judgeNumbers(t *testing.T, name string, from, to int, call func(n int) []any) {
	t.Helper()
	for _, n := range []int{from, to} {
		judge(t, name, true, call(n))
	}
	for _, n := range []int{from - 1, to + 1, least, greatest} {
		judge(t, name, false, call(n))
	}
}

// judgeLengths checks the bounds of the length of a list from both sides.
func judgeLengths(t *testing.T, name string, from, to int, call func(n int) []any) {
	t.Helper()
	judge(t, name, true, call(from))
	judge(t, name, true, call(to))
	judge(t, name, false, call(to+1))
	if from > 0 {
		judge(t, name, false, call(from-1))
	}
}

func TestCheckSounds(t *testing.T) {
	call := func(phones []int, change func(*api.Sounds)) []any {
		s := soundsE()
		change(&s)
		return results(prosody.Syllables(s, phones))
	}
	judgeNumbers(t, "Sonority", 0, 9, func(n int) []any {
		return call(nil, func(s *api.Sounds) { s.Sonority[3] = n })
	})
	judgeNumbers(t, "Peak", 0, 9, func(n int) []any {
		return call(nil, func(s *api.Sounds) { s.Peak, s.Onsets = n, nil })
	})
	judgeLengths(t, "phones of the table", 1, api.MaxPhoneId, func(n int) []any {
		return call(nil, func(s *api.Sounds) { *s = api.Sounds{Sonority: make([]int, n)} })
	})
	judgeLengths(t, "Onsets", 0, api.MaxOnsets, func(n int) []any {
		return call(nil, func(s *api.Sounds) { s.Onsets = slices.Repeat([][]int{{1}}, n) })
	})
	judgeLengths(t, "phones of an onset", 1, 4, func(n int) []any {
		return call(nil, func(s *api.Sounds) { s.Onsets[1] = slices.Repeat([]int{1}, n) })
	})
	judgeNumbers(t, "phone of an onset", 1, 3, func(n int) []any { // 4 is a nucleus
		return call(nil, func(s *api.Sounds) { s.Onsets[3][1] = n })
	})
	judge(t, "phone of an onset", false, call(nil, func(s *api.Sounds) { s.Onsets[0][0] = 6 }))
	judge(t, "a peak that makes onsets wrong", false, call(nil, func(s *api.Sounds) { s.Peak = 3 }))
	judge(t, "a peak above them", true, call(nil, func(s *api.Sounds) { s.Peak = 4 }))
	nothing := func(*api.Sounds) {}
	judgeNumbers(t, "phone", 1, 5, func(n int) []any { return call([]int{1, n, 2}, nothing) })
	judgeLengths(t, "phones", 0, api.MaxPhoneList, func(n int) []any { return call(slices.Repeat([]int{4}, n), nothing) })
}

func TestCheckStress(t *testing.T) {
	call := func(n int, change func(*api.StressStyle)) []any {
		style := api.StressStyle{Skip: 1, Place: 1, Step: 2}
		change(&style)
		return results(prosody.Stress(style, make([]bool, n)))
	}
	nothing := func(*api.StressStyle) {}
	judgeNumbers(t, "Skip", 0, 2, func(n int) []any { return call(3, func(s *api.StressStyle) { s.Skip = n }) })
	judgeNumbers(t, "Place", 0, 5, func(n int) []any { return call(3, func(s *api.StressStyle) { s.Place = n }) })
	judgeNumbers(t, "Step", 2, 3, func(n int) []any { return call(3, func(s *api.StressStyle) { s.Step = n }) })
	judge(t, "no step", true, call(3, func(s *api.StressStyle) { s.Step = 0 }))
	judge(t, "Step", false, call(3, func(s *api.StressStyle) { s.Step = -2 }))
	judge(t, "syllables", true, call(60, nothing))
	judge(t, "syllables", false, call(61, nothing))
	isError(t, "no syllables", call(0, nothing), api.ErrNone)
	isError(t, "no syllables in a wrong style", call(0, func(s *api.StressStyle) { s.Step = 1 }), api.ErrArg)
}

// judgeSentence judges all calls with a sentence.
func judgeSentence(t *testing.T, name string, valid bool, words []api.SpokenWord) {
	t.Helper()
	breaks := make([]int, max(0, len(words)-1))
	judge(t, name, valid, results(prosody.Violations(words, ranksE(), breaks)))
	judge(t, name, valid, results(prosody.Break(words, ranksE())))
	judge(t, name, valid, results(prosody.Compare(words, ranksE(), breaks, breaks)))
	judge(t, name, valid, results(prosody.Marks(words, breaks, api.ActAsk)))
}

func TestCheckSentences(t *testing.T) {
	change := func(name string, from, to int, change func(w *api.SpokenWord, n int)) {
		t.Helper()
		for i := range wordsE() {
			for _, n := range []int{from, to, from - 1, to + 1, least, greatest} {
				words := changed(wordsE(), i, func(w *api.SpokenWord) { change(w, n) })
				judgeSentence(t, name, from <= n && n <= to, words)
			}
		}
	}
	change("Syllables", 1, 20, func(w *api.SpokenWord, n int) { w.Syllables = n })
	change("Stressed", -1, 2, func(w *api.SpokenWord, n int) { w.Stressed = n })
	change("Gap", 0, 20, func(w *api.SpokenWord, n int) { w.Gap = n })
	many := slices.Repeat([]api.SpokenWord{{Syllables: 20, Stressed: 19}}, api.MaxSpokenW+1)
	judgeSentence(t, "words", true, many[1:])
	judgeSentence(t, "words", false, many)
	judgeSentence(t, "no words", true, nil)
}

func TestCheckRanks(t *testing.T) {
	breaks := make([]int, 3)
	all := func(name string, valid bool, ranks []api.Rank) {
		t.Helper()
		judge(t, name, valid, results(prosody.Violations(wordsE(), ranks, breaks)))
		judge(t, name, valid, results(prosody.Break(wordsE(), ranks)))
		judge(t, name, valid, results(prosody.Compare(wordsE(), ranks, breaks, breaks)))
		judge(t, name+" without words", valid, results(prosody.Break(nil, ranks)))
	}
	change := func(name string, from, to int, change func(r *api.Rank, n int)) {
		t.Helper()
		for i := range ranksE() {
			for _, n := range []int{from, to, from - 1, to + 1, least, greatest} {
				all(name, from <= n && n <= to, changed(ranksE(), i, func(r *api.Rank) { change(r, n) }))
			}
		}
	}
	change("Kind", 1, 6, func(r *api.Rank, n int) { r.Kind = api.RankKind(n) })
	change("Level", 1, 2, func(r *api.Rank, n int) { r.Level = n })
	change("Bound", 0, 400, func(r *api.Rank, n int) { r.Bound = n })
	all("ranks", true, slices.Repeat(ranksE(), 10))
	all("ranks", false, append(slices.Repeat(ranksE(), 10), ranksE()[0]))
}

func TestCheckBreaks(t *testing.T) {
	all := func(name string, valid bool, words []api.SpokenWord, breaks []int) {
		t.Helper()
		right := make([]int, max(0, len(words)-1))
		judge(t, name, valid, results(prosody.Violations(words, ranksE(), breaks)))
		judge(t, name, valid, results(prosody.Compare(words, ranksE(), breaks, right)))
		judge(t, name, valid, results(prosody.Compare(words, ranksE(), right, breaks)))
		judge(t, name, valid, results(prosody.Marks(words, breaks, api.ActAsk)))
	}
	for i := range 3 {
		for _, n := range []int{0, 1, 2, 3, -1, least, greatest} {
			all("level", 0 <= n && n <= 2, wordsE(), changed([]int{0, 1, 2}, i, func(b *int) { *b = n }))
		}
	}
	for n := range 6 {
		all("length", n == 3, wordsE(), make([]int, n))
		all("length for a word", n == 0, wordsE()[:1], make([]int, n))
		all("length for no words", n == 0, nil, make([]int, n))
	}
	judgeNumbers(t, "act", 1, 4, func(n int) []any { return results(prosody.Marks(wordsE(), []int{0, 1, 2}, api.Act(n))) })
	judgeNumbers(t, "act without words", 1, 4, func(n int) []any { return results(prosody.Marks(nil, nil, api.Act(n))) })
}

func TestCheckDuration(t *testing.T) {
	call := func(change func(*api.Timed, []api.DurationRule)) []any {
		p := api.Timed{Usual: 100, Least: 40}
		rules := []api.DurationRule{rule(api.DurationStressed, 0, 150), rule(api.DurationCluster, 1, 80)}
		change(&p, rules)
		return results(prosody.Duration(p, rules))
	}
	judgeNumbers(t, "Usual", 40, 2000, func(n int) []any { return call(func(p *api.Timed, _ []api.DurationRule) { p.Usual = n }) })
	judgeNumbers(t, "Least", 1, 100, func(n int) []any { return call(func(p *api.Timed, _ []api.DurationRule) { p.Least = n }) })
	judgeNumbers(t, "Usual and Least", 1, 2000, func(n int) []any { return call(func(p *api.Timed, _ []api.DurationRule) { p.Usual, p.Least = n, n }) })
	judgeNumbers(t, "Final", 0, 2, func(n int) []any { return call(func(p *api.Timed, _ []api.DurationRule) { p.Final = n }) })
	judgeNumbers(t, "Cluster", 0, 9, func(n int) []any { return call(func(p *api.Timed, _ []api.DurationRule) { p.Cluster = n }) })
	for i := range 2 {
		judgeNumbers(t, "Kind", 1, 5, func(n int) []any {
			return call(func(_ *api.Timed, rules []api.DurationRule) { rules[i].Kind = api.DurationKind(n) })
		})
		judgeNumbers(t, "Bound", 0, 9, func(n int) []any {
			return call(func(_ *api.Timed, rules []api.DurationRule) { rules[i].Bound = n })
		})
		judgeNumbers(t, "Percent", 1, 1000, func(n int) []any {
			return call(func(_ *api.Timed, rules []api.DurationRule) { rules[i].Percent = n })
		})
	}
	many := slices.Repeat([]api.DurationRule{rule(api.DurationFinal, 1, 1)}, api.MaxDurations+1)
	p := api.Timed{Usual: 1, Least: 1}
	judge(t, "rules", true, results(prosody.Duration(p, many[1:])))
	judge(t, "rules", false, results(prosody.Duration(p, many)))
}

func TestCheckStretch(t *testing.T) {
	change := func(name string, from, to int, change func(s *stretching, i, n int)) {
		t.Helper()
		for i := range 2 {
			judgeNumbers(t, name, from, to, func(n int) []any {
				s := stretching{[]int{10, 10}, []int{5, 5}, []int{1, 1}, 60000}
				change(&s, i, n)
				judge(t, name+" settled", from <= n && n <= to, results(prosody.Settled(s.durations, s.least, s.stiff, []int{20000, 20000})))
				return results(prosody.Stretch(s.durations, s.least, s.stiff, s.total))
			})
		}
	}
	change("duration", 0, 10000, func(s *stretching, i, n int) { s.durations[i] = n })
	change("least", 0, 10000, func(s *stretching, i, n int) { s.least[i] = n })
	change("stiff", 1, 1000, func(s *stretching, i, n int) { s.stiff[i] = n })
	judgeNumbers(t, "total", 0, api.MaxStretch, func(n int) []any {
		return results(prosody.Stretch([]int{1, 2}, []int{0, 0}, []int{1, 1}, n))
	})
	for a := range 3 {
		for b := range 3 {
			for c := range 3 {
				stiff := slices.Repeat([]int{1}, c)
				judge(t, "lengths", a == b && b == c, results(prosody.Stretch(make([]int, a), make([]int, b), stiff, 0)))
				for d := range 3 {
					judge(t, "lengths", a == b && b == c && c == d, results(prosody.Settled(make([]int, a), make([]int, b), stiff, make([]int, d))))
				}
			}
		}
	}
	for n, valid := range map[int]bool{200: true, 201: false} {
		all, stiff := make([]int, n), slices.Repeat([]int{1}, n)
		judge(t, "phones", valid, results(prosody.Stretch(all, all, stiff, api.MaxStretch)))
		judge(t, "phones", valid, results(prosody.Settled(all, all, stiff, all)))
	}
}

func TestNoStretch(t *testing.T) {
	for _, c := range []struct {
		least []int
		total int
		want  api.Errno
	}{
		{[]int{3, 4}, 7, api.OK},
		{[]int{3, 4}, 6, api.ErrNone},
		{[]int{10000, 10000}, 0, api.ErrNone},
		{nil, 0, api.OK},
		{nil, 1, api.ErrNone},
		{nil, api.MaxStretch, api.ErrNone},
		{nil, api.MaxStretch + 1, api.ErrArg},
		{nil, -1, api.ErrArg},
		{[]int{3, 10001}, 6, api.ErrArg},
	} {
		got := results(prosody.Stretch(make([]int, len(c.least)), c.least, slices.Repeat([]int{1}, len(c.least)), c.total))
		if got[1] != c.want {
			t.Errorf("%v, %d: %v", c.least, c.total, got)
		}
		if c.want != api.OK {
			isError(t, "Stretch", got, c.want)
		}
	}
}

func TestCheckSettled(t *testing.T) {
	for i := range 2 {
		judgeNumbers(t, "x", 5, api.MaxStretch, func(n int) []any {
			return results(prosody.Settled([]int{10, 10}, []int{5, 5}, []int{1, 1}, changed([]int{10, 10}, i, func(x *int) { *x = n })))
		})
	}
}
