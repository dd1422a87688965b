package join_test

import (
	"testing"

	"declaim/api"
	"declaim/join"
)

// The examples of the chapter and of DOC.md.

func TestChapterStep(t *testing.T) {
	isOK(t, "Step", results(join.Step([]int{1, 5, -2})), 7)
	isOK(t, "Loudness", results(join.Loudness([]int{3, 4})), 3)
	isOK(t, "Loudness", results(join.Loudness([]int{-5})), 5)
}

func TestChapterMismatch(t *testing.T) {
	isOK(t, "Mismatch", results(join.Mismatch([]int{9, 1, 2}, []int{1, 2, 9}, 2, 0)), 0)
	isOK(t, "Lag", results(join.Lag([]int{9, 1, 2}, []int{0, 1, 2}, 2, 5)), 1, 0)
}

func TestChapterJoin(t *testing.T) {
	isOK(t, "Fade", results(join.Fade([]int{0, 0, 0}, []int{8, 8, 8})), []int{2, 4, 6})
	isOK(t, "Join", results(join.Join([]int{9, 1, 2}, []int{1, 2, 7}, 2, 0)), []int{9, 1, 2, 7})
	isOK(t, "Chain", results(join.Chain(1, 9, []int{1, 2}, []int{2, 3}, []int{3, 4})), []int{1, 2, 3, 4}, []int{0, 1, 2})
}

func TestChapterPeriods(t *testing.T) {
	isSame(t, "Valid", join.Valid(markedE()), true)
	isOK(t, "Stretch", results(join.Stretch(markedE(), 2, 1)), api.Marked{Samples: []int{5, 1, 2, 1, 2, 3, 4, 3, 4, 6}, Marks: []int{1, 3, 5, 7, 9}})
	isOK(t, "Transpose", results(join.Transpose(markedE(), 2, 1)), api.Marked{Samples: []int{5, 1, 3, 6}, Marks: []int{1, 2, 3}})
	isOK(t, "Sing", results(join.Sing(markedE(), 2, 1)), api.Marked{Samples: []int{5, 1, 1, 3, 3, 6}, Marks: []int{1, 2, 3, 4, 5}})
}

func TestChapterGain(t *testing.T) {
	isOK(t, "Gain", results(join.Gain([]int{100, -3}, 1, 2)), []int{50, -2}, 0)
	isOK(t, "Gain", results(join.Gain([]int{30000}, 2, 1)), []int{32767}, 1)
	isOK(t, "Loudest", results(join.Loudest([]int{30000}, 10)), 10)
}
