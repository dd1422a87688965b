package prosody_test

import (
	"fmt"
	"math/rand/v2"
	"slices"
	"testing"

	"declaim/api"
	"declaim/prosody"
)

// TestAllPhones: the syllables, one after the other, are all phones (P4.1).
func TestAllPhones(t *testing.T) {
	forRandom(500, func(r *rand.Rand) {
		s := randomSounds(r)
		phones := manyOf(r.IntN(api.MaxPhoneList+1), func() int { return 1 + r.IntN(len(s.Sonority)) })
		all, e := prosody.Syllables(s, phones)
		at := 0
		for _, syllable := range all {
			if syllable.From != at || syllable.To <= at || syllable.Nucleus >= syllable.To || syllable.Nucleus < at && syllable.Nucleus != -1 {
				t.Fatalf("%v", all)
			}
			at = syllable.To
		}
		if e != api.OK || at != len(phones) {
			t.Errorf("%d of %d phones, error %d", at, len(phones), e)
		}
	})
}

// TestNoBetterBreaks: in long sentences, no changes of the best breaks in one or two places make them better (P4.3).
func TestNoBetterBreaks(t *testing.T) {
	forRandom(40, func(r *rand.Rand) {
		words := randomSentence(r, 10+r.IntN(31), 20)
		ranks := manyOf(1+r.IntN(8), func() api.Rank {
			return rank(api.RankKind(1+r.IntN(6)), 1+r.IntN(2), r.IntN(someOf(r, 4, 20, 100)))
		})
		best, violations, e := prosody.Break(words, ranks)
		if e != api.OK {
			t.Fatal(e)
		}
		isOK(t, "Violations", results(prosody.Violations(words, ranks, best)), violations)
		try := func(breaks []int) {
			constraint, more, _ := prosody.Compare(words, ranks, best, breaks)
			other := modelViolations(words, ranks, breaks)
			switch {
			case constraint < 0:
				isSame(t, "equal violations", other, violations)
				if slices.Compare(best, breaks) > 0 {
					t.Errorf("%v are before %v", breaks, best)
				}
			case more <= 0:
				t.Errorf("%v are better than %v", breaks, best)
			default:
				isSame(t, "the ranks before", other[:constraint], violations[:constraint])
				isSame(t, "the rank that decides", other[constraint]-violations[constraint], more)
			}
		}
		for i := range best {
			for level := range 3 {
				try(changed(best, i, func(b *int) { *b = level }))
			}
		}
		for range 200 {
			breaks := slices.Clone(best)
			breaks[r.IntN(len(best))], breaks[r.IntN(len(best))] = r.IntN(3), r.IntN(3)
			try(breaks)
		}
	})
}

// TestOneLastTune: for each phrase there is one mark that is TuneRise, TuneFall or TuneKeep, and at most one other mark, before it (P4.4).
func TestOneLastTune(t *testing.T) {
	forRandom(300, func(r *rand.Rand) {
		words := randomSentence(r, 1+r.IntN(api.MaxSpokenW), 20)
		breaks := randomBreaks(r, words)
		marks, _ := prosody.Marks(words, breaks, api.Act(1+r.IntN(4)))
		var ends []int
		for i, m := range marks {
			if m.Tune != api.TuneAccent && m.Tune != api.TuneFocus {
				ends = append(ends, m.Word)
			} else if i > 0 && marks[i-1].Word >= m.Word || i == len(marks)-1 || marks[i+1].Tune == api.TuneAccent || marks[i+1].Tune == api.TuneFocus {
				t.Errorf("the accent %d of %v", i, marks)
			}
		}
		var want []int
		for i := range words {
			if i == len(breaks) || breaks[i] > 0 {
				want = append(want, i)
			}
		}
		isSame(t, "phrases", ends, want)
	})
}

// TestGreaterPercentages: a duration is never less than Least, and with greater percentages it is not less (P4.5).
func TestGreaterPercentages(t *testing.T) {
	forRandom(3000, func(r *rand.Rand) {
		p, rules := randomTimed(r), randomRules(r)
		one, _ := prosody.Duration(p, rules)
		for i := range rules {
			rules[i].Percent += r.IntN(1001 - rules[i].Percent)
		}
		other, e := prosody.Duration(p, rules)
		if e != api.OK || one < p.Least || other < one {
			t.Errorf("%d %d, error %d", one, other, e)
		}
	})
}

// TestSettled: a stretch is settled, and whatever has its sum and is settled has the same sum of squares; a greater total makes no element less (P4.6).
func TestSettled(t *testing.T) {
	forRandom(300, func(r *rand.Rand) {
		s := randomStretching(r, 1+r.IntN(12), someOf(r, 10, 200))
		x, _ := prosody.Stretch(s.durations, s.least, s.stiff, s.total)
		isOK(t, "Settled", results(prosody.Settled(s.durations, s.least, s.stiff, x)), true)
		isSame(t, "sum", sum(x), s.total)
		// from anywhere, profitable moves lead to a settled list
		y := slices.Clone(s.least)
		for range s.total - sum(s.least) {
			y[r.IntN(len(y))]++
		}
		for !modelSettled(s, y) {
			move(r, s, y)
		}
		isOK(t, "Settled", results(prosody.Settled(s.durations, s.least, s.stiff, y)), true)
		isSame(t, "squares", squares(s, y), squares(s, x))
		longer, _ := prosody.Stretch(s.durations, s.least, s.stiff, s.total+1+r.IntN(50))
		for i := range x {
			if longer[i] < x[i] {
				t.Errorf("%v and %v", x, longer)
			}
		}
	})
}

// move moves a millisecond between two elements of a list if that is profitable.
func move(r *rand.Rand, s stretching, y []int) {
	i, k := r.IntN(len(y)), r.IntN(len(y))
	if i == k || y[i] == s.least[i] {
		return
	}
	before := squares(s, y)
	y[i]--
	y[k]++
	if squares(s, y) >= before {
		y[i]++
		y[k]--
	}
}

// TestConsequences: those of P4.7.
func TestConsequences(t *testing.T) {
	forRandom(500, func(r *rand.Rand) {
		words, ranks := randomSentence(r, r.IntN(15), 8), randomRanks(r, r.IntN(6))
		_, violations, _ := prosody.Break(words, ranks)
		_, more, _ := prosody.Break(words, append(ranks, randomRank(r)))
		isSame(t, "a constraint more", more[:len(ranks)], violations)
		isOK(t, "no constraints", results(prosody.Break(words, nil)), make([]int, max(0, len(words)-1)), []int{})

		s := randomStretching(r, r.IntN(8), 100)
		for i := range s.durations {
			s.durations[i] = max(s.durations[i], s.least[i])
		}
		isOK(t, "the sum of the durations", results(prosody.Stretch(s.durations, s.least, s.stiff, sum(s.durations))), s.durations)
	})
}

// TestMemory: no argument is changed, and results share no memory with arguments or each other.
func TestMemory(t *testing.T) {
	s, phones := soundsE(), []int{1, 3, 4, 2, 1, 3, 5, 1}
	heavy := []bool{true, false, true, false, false}
	words, ranks, breaks := wordsE(), ranksE(), []int{0, 1, 2}
	rules := []api.DurationRule{rule(api.DurationPlain, 0, 150)}
	numbers := [][]int{{5, 7}, {1, 2}, {3, 4}, {6, 6}}
	arguments := func() string { return fmt.Sprint(s, phones, heavy, words, ranks, breaks, rules, numbers) }
	before := arguments()
	var lists [][]int
	once := func() string {
		syllables, _ := prosody.Syllables(s, phones)
		main, sides, _ := prosody.Stress(api.StressStyle{FromEnd: true, Step: 2}, heavy)
		violations, _ := prosody.Violations(words, ranks, breaks)
		best, least, _ := prosody.Break(words, ranks)
		marks, _ := prosody.Marks(words, breaks, api.ActList)
		duration, _ := prosody.Duration(api.Timed{Usual: 5, Least: 1}, rules)
		same, _ := prosody.Stretch(numbers[0], numbers[1], numbers[2], 3)
		other, _ := prosody.Stretch(numbers[0], numbers[1], numbers[2], 12)
		settled, _ := prosody.Settled(numbers[0], numbers[1], numbers[2], numbers[3])
		lists = [][]int{sides, violations, best, least, same, other}
		return fmt.Sprint(syllables, main, sides, violations, best, least, marks, duration, same, other, settled)
	}
	want := once()
	for _, list := range lists {
		if len(list) == 0 {
			t.Error("an empty list")
		}
		for i := range list {
			list[i] = -1000
		}
		_ = append(list, -2000)
	}
	for _, list := range lists {
		if slices.Max(list) > -1000 || slices.Min(list) < -1000 {
			t.Errorf("shared: %v", list)
		}
	}
	isSame(t, "arguments", arguments(), before)
	isSame(t, "results", once(), want)
}

// TestLimits: the longest lists of everything.
func TestLimits(t *testing.T) {
	r := rand.New(rand.NewPCG(1, 2))
	words := manyOf(api.MaxSpokenW, func() api.SpokenWord { return randomWord(r, 20) })
	ranks := []api.Rank{rank(api.RankLong, 1, 20), rank(api.RankLong, 2, 90), rank(api.RankCut, 1, 1), rank(api.RankBreaks, 1, 25), rank(api.RankBreaks, 2, 9)}
	for len(ranks) < api.MaxRanks {
		ranks = append(ranks, randomRank(r))
	}
	breaks, violations, e := prosody.Break(words, ranks)
	if e != api.OK || len(breaks) != api.MaxSpokenW-1 || len(violations) != api.MaxRanks {
		t.Errorf("Break: %v %v %d", breaks, violations, e)
	}
	isSame(t, "Violations", violations, modelViolations(words, ranks, breaks))
	// what a list of all lengths costs last: the last gap alone
	end := []api.Rank{rank(api.RankMissed, 2, 20)}
	for i := range words {
		words[i].Gap = 0
	}
	words[api.MaxSpokenW-2].Gap = 20
	isOK(t, "the last gap", results(prosody.Break(words, end)), append(make([]int, api.MaxSpokenW-2), 2), []int{0})

	s := randomStretching(r, 200, 100)
	x, e := prosody.Stretch(s.durations, s.least, s.stiff, api.MaxStretch)
	if e != api.OK || sum(x) != api.MaxStretch {
		t.Errorf("Stretch: %d %d", sum(x), e)
	}
	isOK(t, "Settled", results(prosody.Settled(s.durations, s.least, s.stiff, x)), true)
}

// TestManyBreaks: where only their number counts, breaks are at the end of a sentence.
func TestManyBreaks(t *testing.T) {
	words := slices.Repeat([]api.SpokenWord{{Syllables: 1}}, api.MaxSpokenW)
	for n := range api.MaxSpokenW {
		// as many breaks as are admitted make the sum of what is too long least
		ranks := []api.Rank{rank(api.RankBreaks, 2, n), rank(api.RankLong, 2, 1)}
		want := append(make([]int, api.MaxSpokenW-1-n), slices.Repeat([]int{2}, n)...)
		isOK(t, "Break", results(prosody.Break(words, ranks)), want, []int{0, api.MaxSpokenW - 1 - n})
	}
}

// oddNumber is at a bound, near one, or anywhere.
func oddNumber(r *rand.Rand) int {
	if isChance(r, 3) {
		return int(r.Uint64())
	}
	return someOf(r, least, -2, -1, 0, 0, 1, 1, 2, 2, 3, 4, 5, 6, 9, 10, 20, 21, 100, 1000, 1001, 10000, 60000, 60001, greatest)
}

// TestAnyValue: every function returns for all arguments, with zero values if there is an error.
func TestAnyValue(t *testing.T) {
	right := 0
	forRandom(20000, func(r *rand.Rand) {
		number := func() int {
			if isChance(r, 90) {
				return r.IntN(3)
			}
			return oddNumber(r)
		}
		numbers := func() []int { return manyOf(r.IntN(4), number) }
		words := manyOf(r.IntN(4), func() api.SpokenWord {
			return api.SpokenWord{Syllables: number(), Stressed: number(), Gap: number()}
		})
		ranks := manyOf(r.IntN(4), func() api.Rank { return rank(api.RankKind(number()), number(), number()) })
		rules := manyOf(r.IntN(4), func() api.DurationRule { return rule(api.DurationKind(number()), number(), number()) })
		sounds := api.Sounds{Sonority: numbers(), Peak: number(), Onsets: manyOf(r.IntN(3), numbers)}
		p := api.Timed{Usual: number(), Least: number(), Final: number(), Cluster: number()}
		style := api.StressStyle{Skip: number(), Place: number(), Step: number()}
		for i, got := range [][]any{
			results(prosody.Syllables(sounds, numbers())),
			results(prosody.Stress(style, make([]bool, r.IntN(4)))),
			results(prosody.Violations(words, ranks, numbers())),
			results(prosody.Break(words, ranks)),
			results(prosody.Compare(words, ranks, numbers(), numbers())),
			results(prosody.Marks(words, numbers(), api.Act(number()))),
			results(prosody.Duration(p, rules)),
			results(prosody.Stretch(numbers(), numbers(), numbers(), number())),
			results(prosody.Settled(numbers(), numbers(), numbers(), numbers())),
		} {
			if e := got[len(got)-1].(api.Errno); e != api.OK {
				isError(t, fmt.Sprint("call ", i), got, e)
			} else {
				right++
			}
		}
	})
	if right < 10000 {
		t.Errorf("only %d without an error", right)
	}
}
