package stream

import (
	"iter"
	"slices"
	"testing"

	"declaim/api"
)

// isLeft checks that a loop over what is yielded can be left behind each element; the language panics if it is yielded more.
func isLeft[E comparable](t *testing.T, name string, all iter.Seq[E]) {
	t.Helper()
	want := slices.Collect(all)
	for n := range want {
		var some []E
		for e := range all {
			some = append(some, e)
			if len(some) > n {
				break
			}
		}
		if !slices.Equal(some, want[:n+1]) {
			t.Errorf("%s: %v, not %v", name, some, want[:n+1])
		}
	}
}

func TestLeft(t *testing.T) {
	signs := []api.Sign{{At: 0, Name: "a"}, {At: 1, Name: "b"}, {At: 1, Name: "c"}, {At: 4, Name: "d"}, {At: 6, Name: "e"}, {At: 6, Name: "f"}}
	said := talk{api.Speech{Samples: []int{1, 2, 3, 4, 5, 6}, Periods: []int{1, 3}, Signs: signs}, api.Pace{Num: 1, Den: 2}}
	isLeft(t, "stretches", said.stretches)
	isLeft(t, "samples", said.said)
	isLeft(t, "signs", said.cues)
}
