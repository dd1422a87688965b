package tract_test

import (
	"testing"

	"declaim/api"
	"declaim/tract"
)

// The examples of the chapter and of DOC.md.

func TestChapterScatter(t *testing.T) {
	isOK(t, "Scatter", results(tract.Scatter([]int{1, 1}, []int{5, 3})), []int{3, 5})
	isOK(t, "Scatter", results(tract.Scatter([]int{1, 3}, []int{8, 0})), []int{-4, 4})
	isOK(t, "Scatter", results(tract.Scatter([]int{2}, []int{7})), []int{7})
}

func TestChapterStep(t *testing.T) {
	tube := made(t, api.Shape{Areas: []int{1, 1, 1}, Lips: 50})
	isSame(t, "heard", stepped(t, tube, feed(0, 100)), api.Heard{})
	isSame(t, "heard", stepped(t, tube), api.Heard{})
	isSame(t, "heard", stepped(t, tube), api.Heard{})
	isSame(t, "energy", tube.Energy(), 10000)
	isSame(t, "heard", stepped(t, tube), api.Heard{Lips: 50})
	isSame(t, "energy", tube.Energy(), 2500)
	isSame(t, "steps", tube.Steps(), 4)
}

func TestChapterChange(t *testing.T) {
	tube := made(t, api.Shape{Areas: []int{1, 1, 1}})
	stepped(t, tube, feed(0, 5))
	isSame(t, "error", tube.Change([]int{2, 1, 1}, nil), api.OK)
	isSame(t, "waves", wavesOf(tube), [][]int{{2, 0, 0}, {0, 0, 0}, nil, nil})
}

func TestChapterFollow(t *testing.T) {
	isOK(t, "Follow", results(tract.Follow(0, 10, 500)), 5)
	isOK(t, "Follow", results(tract.Follow(9, 10, 500)), 10)
	isOK(t, "Follow", results(tract.Follow(10, 0, 1000)), 0)
}

func TestChapterAreas(t *testing.T) {
	gesture := api.Gesture{First: 0, Last: 0, Start: 0, End: 2, Area: 200, Speed: 500}
	isOK(t, "Areas", results(tract.Areas([]int{100}, []api.Gesture{gesture}, 3)), [][]int{{125}, {150}, {151}})
}

func TestChapterSources(t *testing.T) {
	isOK(t, "Pulses", results(tract.Pulses(api.Glottal{Periods: 2, Length: 4, Open: 4, Height: 10})), []int{0, 7, 10, 7, 0, 7, 10, 7})
	isOK(t, "Noise", results(tract.Noise(0, 1, 2)), []int{1, 0})
}
