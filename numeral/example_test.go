package numeral_test

import (
	"fmt"

	"declaim/api"
	"declaim/numeral"
)

// Example is the use that README.md shows.
func Example() {
	term := func(text string) api.Term {
		return api.Term{Forms: []api.Form{{Gender: -1, Case: -1, Class: -1, Text: text}}}
	}
	system := api.System{
		Top: 5, Genders: 1, Cases: 1, Classes: 1,
		Terms: []api.Term{term("none"), term("one"), term("pair")},
		Sets: [][]api.Numeral{{
			{Base: 0, Pieces: []api.Piece{{Kind: api.PieceTerm, Term: 0}}},
			{Base: 1, Pieces: []api.Piece{{Kind: api.PieceTerm, Term: 1}}},
			{Base: 2, Divisor: 2, Pieces: []api.Piece{{Kind: api.PieceQuotient}, {Kind: api.PieceTerm, Term: 2}, {Kind: api.PieceRest}}},
		}},
	}
	fmt.Println(numeral.Spell(system, api.Ask{Number: 3}))
	fmt.Println(numeral.Read(system, api.Ask{Number: 5}, []string{"one", "pair"}))
	// Output:
	// [one pair one] 0
	// [2] 0
}
