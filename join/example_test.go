package join_test

import (
	"fmt"

	"declaim/api"
	"declaim/join"
)

// Example is the use that README.md shows.
func Example() {
	fmt.Println(join.Lag([]int{9, 1, 2}, []int{0, 1, 2, 7}, 2, 5))
	fmt.Println(join.Join([]int{9, 1, 2}, []int{0, 1, 2, 7}, 2, 1))
	fmt.Println(join.Chain(1, 9, []int{1, 2}, []int{2, 3}, []int{3, 4}))
	wave := api.Marked{Samples: []int{5, 1, 2, 3, 4, 6}, Marks: []int{1, 3, 5}}
	fmt.Println(join.Stretch(wave, 2, 1))
	fmt.Println(join.Transpose(wave, 2, 1))
	fmt.Println(join.Sing(wave, 2, 1))
	fmt.Println(join.Smooth(api.Marked{Samples: []int{0, 0, 9, 9}, Marks: []int{0, 2, 4}}, 2))
	fmt.Println(join.Gain([]int{30000, -3}, 2, 1))
	fmt.Println(join.Level([]int{300, -400}, 7))
	// Output:
	// 1 0 0
	// [9 1 2 7] 0
	// [1 2 3 4] [0 1 2] 0
	// {[5 1 2 1 2 3 4 3 4 6] [1 3 5 7 9]} 0
	// {[5 1 3 6] [1 2 3]} 0
	// {[5 1 1 3 3 6] [1 2 3 4 5]} 0
	// {[2 4 5 7] [0 2 4]} 0
	// [32767 -6] 1 0
	// [6 -8] 0
}
