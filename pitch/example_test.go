package pitch_test

import (
	"fmt"

	"declaim/api"
	"declaim/pitch"
)

// Example is the use that README.md shows.
func Example() {
	fall := api.Command{Height: 10, Shape: []api.Knot{{Time: 0, Value: 1000}, {Time: 3, Value: 0}}}
	fmt.Println(pitch.Curve(4, 50, fall))
	problem := api.Contour{Frames: 3, High: 10, Slope: 2, Targets: []api.Target{{Time: 0, Value: 0, Weight: 1}, {Time: 2, Value: 10, Weight: 1}}}
	fmt.Println(pitch.Best(problem))
	fmt.Println(pitch.Settled(problem, []int{2, 4, 6}))
	fmt.Println(pitch.Frequency(50))
	fmt.Println(pitch.Cents(54999))
	fmt.Println(pitch.Pulses(10, []int{3000, 3000, 3000, 3000, 3000, 3000, 3000}))
	fmt.Println(pitch.Sing(api.Note{Key: 1, Length: 2, Period: 4}, api.Note{Key: 3, Length: 3, Glide: 2, Period: 4}))
	// Output:
	// [60 57 53 50] 0
	// [3 5 7] 18 0
	// false 0
	// 28318 0
	// 1199 0
	// [3 6] 0
	// [100 100 100 200 300] 0
}
