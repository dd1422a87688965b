package prosody_test

import (
	"fmt"

	"declaim/api"
	"declaim/prosody"
)

// Example is the use that README.md shows.
func Example() {
	sounds := api.Sounds{Sonority: []int{1, 1, 3, 9, 9}, Peak: 9, Onsets: [][]int{{1}, {2}, {3}, {1, 3}}}
	fmt.Println(prosody.Syllables(sounds, []int{1, 3, 4, 2, 1, 3, 5, 1}))
	fmt.Println(prosody.Stress(api.StressStyle{FromEnd: true, Skip: 1, Heavy: true, Step: 2}, []bool{true, false, true, false, false}))
	words := []api.SpokenWord{{Syllables: 3}, {Syllables: 3, Gap: 2}, {Syllables: 3, Focus: true}, {Syllables: 3}}
	ranks := []api.Rank{{Kind: api.RankLong, Level: 1, Bound: 6}, {Kind: api.RankCut, Level: 1, Bound: 1}}
	breaks, violations, _ := prosody.Break(words, ranks)
	fmt.Println(breaks, violations)
	fmt.Println(prosody.Compare(words, ranks, breaks, []int{1, 0, 1}))
	fmt.Println(prosody.Marks(words, breaks, api.ActAsk))
	fmt.Println(prosody.Duration(api.Timed{Usual: 100, Least: 40, Stressed: true}, []api.DurationRule{{Kind: api.DurationStressed, Percent: 150}}))
	fmt.Println(prosody.Stretch([]int{100, 100}, []int{0, 0}, []int{1, 3}, 240))
	// Output:
	// [{0 2 4} {4 6 8}] 0
	// 2 [0] 0
	// [0 1 0] [0 0]
	// 1 2 0
	// [{1 0 1} {1 2 5} {2 0 2} {3 2 3}] 0
	// 130 0
	// [130 110] 0
}
