package house_test

import (
	"fmt"

	"declaim/api"
	"declaim/house"
)

// Example is the use that README.md shows.
func Example() {
	mark := api.Stamp{Key: 7, Period: 8, Bits: 2, Margin: 40}
	marked, depth, _ := house.Sign(make([]int, 152), mark, 3)
	fmt.Println(marked[:8], depth)
	fmt.Println(house.Find(append([]int{1, 2}, marked...), mark, 30))
	fmt.Println(house.Survives(mark, 30, 1, 1, 0))
	fmt.Println(house.Signs(9, 10))
	fmt.Println(house.Holm([]api.Chance{{Of: 1, All: 100}, {Of: 1, All: 20}, {Of: 1, All: 30}}, 1, 20))
	fmt.Println(house.Square(4))
	fmt.Println(house.Changes([]int{1, 2, 3, 4, 5}, []int{1, 9, 3, 4, 0, 7}, 1))

	grammar := api.Grammar{
		System:      api.System{Genders: 1, Cases: 1, Classes: 1, Sets: [][]api.Numeral{{{Pieces: []api.Piece{{Kind: api.PieceTerm}}}}}, Terms: []api.Term{{}}},
		Sorts:       [][]api.Span{{{From: 'a', To: 'z'}, {From: '.', To: '.'}}, {{From: ' ', To: ' '}}},
		Conventions: []api.Convention{{Pattern: []api.Atom{{Least: 1, Most: 30}}, Says: []api.Say{{Kind: api.SayEcho}}, Cost: 2}, {Pattern: []api.Atom{{Sort: 1, Least: 1, Most: 1}}}},
	}
	patched, differ, errno := house.Patch(grammar, "dr. who", 0, 3, []string{"doctor"}, []string{"who", "the dr. is in"})
	fmt.Println(patched.Conventions[2].Cost, differ, errno)
	fmt.Println(house.Suspects(grammar, patched, "dr. who"))
	fmt.Println(house.Blame([]api.Grammar{grammar, patched, patched}, "dr. who"))
	// Output:
	// [-5 5 5 -5 -5 -5 -5 -5] 5
	// [{2 3}] 0
	// true 0
	// {22 1024} 0
	// [true false false] 0
	// [[0 1 3 2] [1 2 0 3] [2 3 1 0] [3 0 2 1]] 0
	// [{1 2 7} {4 6 5}] 0
	// 1 [1] 0
	// [2] 0
	// [1] 0
}
