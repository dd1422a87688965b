package unit_test

import (
	"fmt"

	"declaim/api"
	"declaim/unit"
)

// Example is the use that README.md shows.
func Example() {
	voice := []api.Unit{
		{Phone: "a", Pitch: 100, Length: 10, Take: 0, From: 0, To: 10, Begin: []int{0}, End: []int{4}},
		{Phone: "b", Pitch: 100, Length: 10, Take: 0, From: 10, To: 20, Begin: []int{5}, End: []int{0}},
		{Phone: "a", Pitch: 120, Length: 10, Take: 1, From: 0, To: 10, Begin: []int{0}, End: []int{5}},
	}
	targets := []api.Wanted{{Phone: "a", Pitch: 100, Length: 10}, {Phone: "b", Pitch: 100, Length: 10}}
	weights := api.Weights{Beside: 1, Pitch: 1, Length: 1, Join: 2}
	best, certificate, errno := unit.Choose(voice, targets, weights)
	fmt.Println(best, certificate, errno)
	fmt.Println(unit.Verify(voice, targets, weights, best.Cost, certificate))
	fmt.Println(unit.Best(voice, targets, weights, 5))
	fmt.Println(unit.Cut([][]int{{1}, {1}, {9}}, [][]int{{1}, {8}}, 1))
	sets := [][]int{{0, 1, 2}, {0, 3}, {1, 2}, {3}}
	fmt.Println(unit.Least(4, sets))
	prices, scale, errno := unit.Price(4, sets)
	fmt.Println(prices, scale, errno)
	fmt.Println(unit.Proves(4, sets, prices, scale))
	// Output:
	// {[0 1] 0} [[0 0 20] [0 0 0]] 0
	// true
	// [{[0 1] 0} {[2 1] 20}] 0
	// [2 1] 1 0
	// [0 1] 0
	// [9240 9240 9240 27720] 50820 0
	// 2 true
}
