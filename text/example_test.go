package text_test

import (
	"fmt"

	"declaim/api"
	"declaim/text"
)

// Example is the use that README.md shows.
func Example() {
	grammar := api.Grammar{
		System: api.System{Genders: 1, Cases: 1, Classes: 1, Sets: [][]api.Numeral{{{Pieces: []api.Piece{{Kind: api.PieceTerm}}}}}, Terms: []api.Term{{}}},
		Sorts:  [][]api.Span{{{From: 'a', To: 'z'}}},
		Tables: [][]api.Row{{{Text: "dr", Words: []string{"doctor"}}}},
		Conventions: []api.Convention{
			{Pattern: []api.Atom{{Sort: 0, Least: 1, Most: 30}}, Says: []api.Say{{Kind: api.SayEcho}}, Cost: 2, After: []int{-1}},
			{Pattern: []api.Atom{{Sort: 0, Least: 1, Most: 9}, {Text: ". "}}, Says: []api.Say{{Kind: api.SayRow}}, Cost: 1},
		},
	}
	reading, certificate, _ := text.Best(grammar, "dr. who")
	fmt.Println(reading)
	fmt.Println(certificate)
	fmt.Println(text.Words(grammar, "dr. who"))
	fmt.Println(text.Verify(grammar, "dr. who", reading.Cost, certificate))
	// Output:
	// {[{1 0 4 [doctor]} {0 4 7 [who]}] 3}
	// [{0 -1 3} {4 1 2} {7 0 0}]
	// [doctor who] 0
	// true
}
