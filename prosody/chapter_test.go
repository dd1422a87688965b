package prosody_test

import (
	"testing"

	"declaim/api"
	"declaim/prosody"
)

// The examples of the chapter and of DOC.md.

func TestChapterSyllables(t *testing.T) {
	for _, c := range []struct {
		phones []int
		want   []api.Syllable
	}{
		{[]int{1, 3, 4, 2, 1, 3, 5, 1}, []api.Syllable{{From: 0, Nucleus: 2, To: 4}, {From: 4, Nucleus: 6, To: 8}}},
		{[]int{4, 5}, []api.Syllable{{From: 0, Nucleus: 0, To: 1}, {From: 1, Nucleus: 1, To: 2}}},
		{[]int{1, 2}, []api.Syllable{{From: 0, Nucleus: -1, To: 2}}},
		{nil, nil},
	} {
		isOK(t, "Syllables", results(prosody.Syllables(soundsE(), c.phones)), c.want)
	}
}

func TestChapterStress(t *testing.T) {
	isOK(t, "Place", results(prosody.Stress(api.StressStyle{FromEnd: true, Place: 1}, make([]bool, 3))), 1, []int{})
	isOK(t, "Heavy", results(prosody.Stress(api.StressStyle{FromEnd: true, Skip: 1, Heavy: true, Step: 2}, []bool{true, false, true, false, false})), 2, []int{0})
}

func TestChapterBreak(t *testing.T) {
	isOK(t, "Break", results(prosody.Break(wordsE(), ranksE())), []int{0, 1, 0}, []int{0, 0})
	isOK(t, "Violations", results(prosody.Violations(wordsE(), ranksE(), []int{1, 0, 1})), []int{0, 2})
	isOK(t, "Compare", results(prosody.Compare(wordsE(), ranksE(), []int{0, 1, 0}, []int{1, 0, 1})), 1, 2)
	isOK(t, "Compare", results(prosody.Compare(wordsE(), ranksE(), []int{1, 0, 1}, []int{0, 1, 0})), 1, -2)
	isOK(t, "Compare", results(prosody.Compare(wordsE(), ranksE(), []int{0, 1, 0}, []int{0, 2, 0})), -1, 0)
}

func TestChapterMarks(t *testing.T) {
	words := []api.SpokenWord{{Syllables: 2, Focus: true}, {Syllables: 3, Stressed: 1}}
	isOK(t, "Marks", results(prosody.Marks(words, []int{0}, api.ActAsk)), []api.Mark{{Word: 0, Syllable: 0, Tune: api.TuneFocus}, {Word: 1, Syllable: 2, Tune: api.TuneRise}})
}

func TestChapterDuration(t *testing.T) {
	rules := []api.DurationRule{rule(api.DurationStressed, 0, 150), rule(api.DurationFinal, 0, 200)}
	isOK(t, "Duration", results(prosody.Duration(api.Timed{Usual: 100, Least: 40, Stressed: true}, rules)), 130)
}

func TestChapterStretch(t *testing.T) {
	isOK(t, "Stretch", results(prosody.Stretch([]int{100, 100}, []int{0, 0}, []int{1, 3}, 240)), []int{130, 110})
	isOK(t, "Settled", results(prosody.Settled([]int{100, 100}, []int{0, 0}, []int{1, 3}, []int{130, 110})), true)
	isOK(t, "Settled", results(prosody.Settled([]int{100, 100}, []int{0, 0}, []int{1, 3}, []int{129, 111})), false)
}
