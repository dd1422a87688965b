package prosody_test

import (
	"fmt"
	"math/rand/v2"
	"reflect"
	"slices"
	"testing"

	"declaim/api"
)

// soundsE is the table of the chapter's examples, wordsE its sentence of four words, ranksE its constraints.
func soundsE() api.Sounds {
	return api.Sounds{Sonority: []int{1, 1, 3, 9, 9}, Peak: 9, Onsets: [][]int{{1}, {2}, {3}, {1, 3}}}
}

func wordsE() []api.SpokenWord {
	return []api.SpokenWord{{Syllables: 3}, {Syllables: 3, Gap: 2}, {Syllables: 3}, {Syllables: 3}}
}

func ranksE() []api.Rank {
	return []api.Rank{rank(api.RankLong, 1, 6), rank(api.RankCut, 1, 1)}
}

func rank(kind api.RankKind, level, bound int) api.Rank {
	return api.Rank{Kind: kind, Level: level, Bound: bound}
}

func rule(kind api.DurationKind, bound, percent int) api.DurationRule {
	return api.DurationRule{Kind: kind, Bound: bound, Percent: percent}
}

// results are those of a call, its error at the end.
func results(all ...any) []any { return all }

// isOK checks that a call has no error, and that it has these other results; nil and empty lists are printed the same.
func isOK(t *testing.T, name string, got []any, want ...any) {
	t.Helper()
	if fmt.Sprint(got) != fmt.Sprint(append(want, api.OK)) {
		t.Errorf("%s: %v, not %v", name, got, want)
	}
}

// isError checks that a call has an error and zero values.
func isError(t *testing.T, name string, got []any, want api.Errno) {
	t.Helper()
	last := len(got) - 1
	if got[last] != want {
		t.Errorf("%s: %v, not the error %d", name, got, want)
	}
	for _, result := range got[:last] {
		if v := reflect.ValueOf(result); !v.IsZero() && (v.Kind() != reflect.Slice || v.Len() > 0) {
			t.Errorf("%s: result %v with an error", name, result)
		}
	}
}

func isSame(t *testing.T, name string, got, want any) {
	t.Helper()
	if fmt.Sprint(got) != fmt.Sprint(want) {
		t.Errorf("%s: %v, not %v", name, got, want)
	}
}

// someOf returns one of a few elements.
func someOf[E any](r *rand.Rand, elements ...E) E { return elements[r.IntN(len(elements))] }

// manyOf returns a list with random elements.
func manyOf[E any](n int, element func() E) []E {
	all := make([]E, n)
	for i := range all {
		all[i] = element()
	}
	return all
}

func isChance(r *rand.Rand, percent int) bool { return r.IntN(100) < percent }

// forRandom calls something with a new random source for each seed.
func forRandom(times int, call func(r *rand.Rand)) {
	for seed := range uint64(times) {
		call(rand.New(rand.NewPCG(seed, 4)))
	}
}

func randomSounds(r *rand.Rand) api.Sounds {
	s := api.Sounds{Peak: r.IntN(10), Sonority: manyOf(1+r.IntN(6), func() int { return r.IntN(10) })}
	var consonants []int
	for i, sonority := range s.Sonority {
		if sonority < s.Peak {
			consonants = append(consonants, i+1)
		}
	}
	if len(consonants) > 0 {
		s.Onsets = manyOf(r.IntN(8), func() []int {
			return manyOf(1+r.IntN(4), func() int { return someOf(r, consonants...) })
		})
	}
	return s
}

func randomWord(r *rand.Rand, syllables int) api.SpokenWord {
	w := api.SpokenWord{Syllables: 1 + r.IntN(syllables), Gap: r.IntN(4), Focus: isChance(r, 25), Content: isChance(r, 50)}
	w.Stressed = r.IntN(w.Syllables+1) - 1
	return w
}

func randomSentence(r *rand.Rand, n, syllables int) []api.SpokenWord {
	return manyOf(n, func() api.SpokenWord { return randomWord(r, syllables) })
}

func randomRank(r *rand.Rand) api.Rank {
	kind, bound := api.RankKind(1+r.IntN(6)), r.IntN(4)
	if kind == api.RankLong || kind == api.RankShort {
		bound = r.IntN(16)
	}
	return rank(kind, 1+r.IntN(2), bound)
}

func randomRanks(r *rand.Rand, n int) []api.Rank {
	return manyOf(n, func() api.Rank { return randomRank(r) })
}

func randomBreaks(r *rand.Rand, words []api.SpokenWord) []int {
	return manyOf(max(0, len(words)-1), func() int { return r.IntN(3) })
}

func randomTimed(r *rand.Rand) api.Timed {
	least := 1 + r.IntN(60)
	return api.Timed{Usual: least + r.IntN(200), Least: least, Stressed: isChance(r, 50), Accented: isChance(r, 50), Final: r.IntN(3), Cluster: r.IntN(10)}
}

func randomRules(r *rand.Rand) []api.DurationRule {
	return manyOf(r.IntN(7), func() api.DurationRule {
		return rule(api.DurationKind(1+r.IntN(5)), r.IntN(someOf(r, 3, 10)), 1+r.IntN(someOf(r, 200, 1000)))
	})
}

// stretching are arguments of Stretch.
type stretching struct {
	durations, least, stiff []int
	total                   int
}

func randomStretching(r *rand.Rand, n, most int) stretching {
	s := stretching{
		durations: manyOf(n, func() int { return r.IntN(most) }),
		least:     manyOf(n, func() int { return r.IntN(1 + r.IntN(most)) }),
		stiff:     manyOf(n, func() int { return someOf(r, 1, 1, 1, 2, 3, 4, 1+r.IntN(1000)) }),
	}
	s.total = sum(s.least) + r.IntN(1+n*most)
	return s
}

func sum(list []int) int {
	total := 0
	for _, n := range list {
		total += n
	}
	return total
}

// changed is a list with another element.
func changed[E any](list []E, i int, change func(*E)) []E {
	list = slices.Clone(list)
	change(&list[i])
	return list
}
