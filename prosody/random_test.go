package prosody_test

import (
	"math/rand/v2"
	"slices"
	"testing"

	"declaim/api"
	"declaim/prosody"
)

// Random arguments have the results of the model.

func TestRandomSyllables(t *testing.T) {
	shared := 0
	forRandom(6000, func(r *rand.Rand) {
		s := randomSounds(r)
		phones := manyOf(r.IntN(12), func() int { return 1 + r.IntN(len(s.Sonority)) })
		want := modelSyllables(s, phones)
		isOK(t, "Syllables", results(prosody.Syllables(s, phones)), want)
		for _, syllable := range want {
			if syllable.From > 0 && syllable.From < syllable.Nucleus {
				shared++
			}
		}
	})
	if shared < 500 {
		t.Errorf("only %d onsets", shared)
	}
}

func TestRandomStress(t *testing.T) {
	forRandom(3000, func(r *rand.Rand) {
		style := api.StressStyle{FromEnd: isChance(r, 50), Skip: r.IntN(3), Place: r.IntN(6), Heavy: isChance(r, 50), Step: someOf(r, 0, 2, 3)}
		heavy := manyOf(1+r.IntN(9), func() bool { return isChance(r, 25) })
		main, sides := modelStress(style, heavy)
		isOK(t, "Stress", results(prosody.Stress(style, heavy)), main, sides)
	})
}

func TestRandomBreak(t *testing.T) {
	levels := map[int]int{}
	forRandom(3000, func(r *rand.Rand) {
		words := randomSentence(r, r.IntN(7), 6)
		ranks := randomRanks(r, r.IntN(7))
		breaks, violations := modelBreak(words, ranks)
		isOK(t, "Break", results(prosody.Break(words, ranks)), breaks, violations)
		for _, level := range breaks {
			levels[level]++
		}
		other := randomBreaks(r, words)
		isOK(t, "Violations", results(prosody.Violations(words, ranks, other)), modelViolations(words, ranks, other))
	})
	if min(levels[0], levels[1], levels[2]) < 500 {
		t.Errorf("only %v", levels)
	}
}

// TestRandomCounts: several constraints on the numbers of breaks of both levels, with others that want breaks.
func TestRandomCounts(t *testing.T) {
	forRandom(300, func(r *rand.Rand) {
		words := randomSentence(r, 1+r.IntN(8), 4)
		ranks := randomRanks(r, 2)
		for range 1 + r.IntN(5) {
			ranks = append(ranks, rank(api.RankBreaks, 1+r.IntN(2), r.IntN(9)))
		}
		for range 3 {
			ranks = append(ranks, rank(api.RankLong, 1+r.IntN(2), r.IntN(12)), randomRank(r))
		}
		r.Shuffle(len(ranks), func(i, k int) { ranks[i], ranks[k] = ranks[k], ranks[i] })
		breaks, violations := modelBreak(words, ranks)
		isOK(t, "Break", results(prosody.Break(words, ranks)), breaks, violations)
	})
}

func TestRandomCompare(t *testing.T) {
	forRandom(2000, func(r *rand.Rand) {
		words := randomSentence(r, r.IntN(8), 6)
		ranks := randomRanks(r, r.IntN(7))
		a, b := randomBreaks(r, words), randomBreaks(r, words)
		ofA, ofB := modelViolations(words, ranks, a), modelViolations(words, ranks, b)
		constraint, more := -1, 0
		for i := len(ranks) - 1; i >= 0; i-- {
			if ofA[i] != ofB[i] {
				constraint, more = i, ofB[i]-ofA[i]
			}
		}
		isOK(t, "Compare", results(prosody.Compare(words, ranks, a, b)), constraint, more)
	})
}

func TestRandomMarks(t *testing.T) {
	tunes := map[api.Tune]int{}
	forRandom(3000, func(r *rand.Rand) {
		words := randomSentence(r, r.IntN(9), 4)
		breaks, act := randomBreaks(r, words), api.Act(1+r.IntN(4))
		want := modelMarks(words, breaks, act)
		isOK(t, "Marks", results(prosody.Marks(words, breaks, act)), want)
		for _, m := range want {
			tunes[m.Tune]++
		}
	})
	for tune := api.TuneAccent; tune <= api.TuneKeep; tune++ {
		if tunes[tune] < 500 {
			t.Errorf("only %v", tunes)
		}
	}
}

func TestRandomDuration(t *testing.T) {
	forRandom(5000, func(r *rand.Rand) {
		p, rules := randomTimed(r), randomRules(r)
		isOK(t, "Duration", results(prosody.Duration(p, rules)), modelDuration(p, rules))
	})
}

func TestRandomStretch(t *testing.T) {
	forRandom(2000, func(r *rand.Rand) {
		s := randomStretching(r, 1+r.IntN(4), 6)
		want := modelStretch(s)
		isOK(t, "Stretch", results(prosody.Stretch(s.durations, s.least, s.stiff, s.total)), want)
	})
}

func TestRandomSettled(t *testing.T) {
	seen := map[bool]int{}
	forRandom(5000, func(r *rand.Rand) {
		s := randomStretching(r, r.IntN(4), 6)
		x := slices.Clone(s.least)
		for i := range x {
			x[i] = max(x[i], s.durations[i]+r.IntN(3)-1)
		}
		want := modelSettled(s, x)
		isOK(t, "Settled", results(prosody.Settled(s.durations, s.least, s.stiff, x)), want)
		seen[want]++
	})
	if min(seen[true], seen[false]) < 500 {
		t.Errorf("only %v", seen)
	}
}
