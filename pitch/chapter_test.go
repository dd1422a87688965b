package pitch_test

import (
	"testing"

	"declaim/api"
	"declaim/pitch"
)

// The examples of the chapter and of DOC.md.

func TestChapterValue(t *testing.T) {
	for at, want := range map[int]int{9: 0, 11: 25, 14: 100, 17: 25, 19: 0} {
		isOK(t, "Value", results(pitch.Value(commandE(), at)), want)
	}
}

func TestChapterCurve(t *testing.T) {
	fall := api.Command{Height: 10, Shape: []api.Knot{{Time: 0, Value: 1000}, {Time: 3}}}
	isOK(t, "Curve", results(pitch.Curve(4, 50, fall)), []int{60, 57, 53, 50})
}

func TestChapterBest(t *testing.T) {
	isOK(t, "Best", results(pitch.Best(problemE())), []int{3, 5, 7}, 18)
	isOK(t, "Cost", results(pitch.Cost(problemE(), []int{3, 5, 7})), 18)
	isOK(t, "Settled", results(pitch.Settled(problemE(), []int{3, 5, 7})), true)
	isOK(t, "Settled", results(pitch.Settled(problemE(), []int{2, 4, 6})), false)
}

func TestChapterFrequency(t *testing.T) {
	for cents, want := range map[int]int{0: 27500, 1200: 55000, 2400: 110000, 50: 28318} {
		isOK(t, "Frequency", results(pitch.Frequency(cents)), want)
	}
	isOK(t, "Cents", results(pitch.Cents(27500)), 0)
	isOK(t, "Cents", results(pitch.Cents(54999)), 1199)
	isError(t, "Cents", results(pitch.Cents(1)), api.ErrNone)
}

func TestChapterPulses(t *testing.T) {
	frequencies := []int{3000, 3000, 3000, 3000, 3000, 3000, 3000}
	isOK(t, "Pulses", results(pitch.Pulses(10, frequencies)), []int{3, 6})
	isOK(t, "Count", results(pitch.Count(10, frequencies)), 2, 1000)
}

func TestChapterSing(t *testing.T) {
	glide := api.Note{Key: 3, Length: 3, Glide: 2, Period: 4}
	isOK(t, "Sing", results(pitch.Sing(plainNote(1, 2), glide)), []int{100, 100, 100, 200, 300})
}
