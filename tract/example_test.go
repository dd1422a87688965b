package tract_test

import (
	"fmt"

	"declaim/api"
	"declaim/tract"
)

// Example is the use that README.md shows.
func Example() {
	tube, _ := tract.New(api.Shape{Areas: []int{1, 3}, Glottis: 90, Lips: 50})
	fmt.Println(tube.Step(api.Feed{Section: 0, Amount: 80}))
	fmt.Println(tube.Rest(3))
	fmt.Println(tube.Energy(), tube.Change([]int{2, 3}, nil), tube.Energy())
	fmt.Println(tract.Scatter([]int{1, 3}, []int{8, 0}))
	gesture := api.Gesture{First: 0, Last: 0, Start: 0, End: 2, Area: 200, Speed: 500}
	fmt.Println(tract.Areas([]int{100}, []api.Gesture{gesture}, 3))
	pulses, _ := tract.Pulses(api.Glottal{Periods: 1, Length: 4, Open: 4, Height: 10})
	noise, _ := tract.Noise(0, 1, 2)
	fmt.Println(pulses, noise)
	fmt.Println(tract.Utter(api.Shape{Areas: []int{1, 1}, Lips: 50}, nil, pulses, noise, 1))
	// Output:
	// {0 0} 0
	// [{0 0} {20 0} {0 0}] 0
	// 2496 0 2424
	// [-4 4] 0
	// [[125] [150] [151]] 0
	// [0 7 10 7] [1 0]
	// [{0 0} {1 0} {0 0} {4 0}] 0
}
