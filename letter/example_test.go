package letter_test

import (
	"fmt"

	"declaim/api"
	"declaim/letter"
)

// Example is the use that README.md shows.
func Example() {
	lexicon := []api.Spelled{
		{Word: "ace", Phones: []string{"ei", "s"}},
		{Word: "at", Phones: []string{"a", "t"}},
		{Word: "ate", Phones: []string{"ei", "t"}},
		{Word: "cat", Phones: []string{"k", "a", "t"}},
	}
	pairs := []api.Pair{
		{Letter: 'a', Piece: []string{"a"}},
		{Letter: 'a', Piece: []string{"ei"}, Cost: 1},
		{Letter: 'c', Piece: []string{"k"}},
		{Letter: 'c', Piece: []string{"s"}, Cost: 1},
		{Letter: 'e'},
		{Letter: 't', Piece: []string{"t"}},
	}
	fmt.Println(letter.Align(pairs, "ate", []string{"ei", "t"}))
	book, _ := letter.Learn(lexicon, pairs, api.Learning{Reach: 2, Least: 1, Most: 10})
	fmt.Println(book.Letters[0])
	fmt.Println(letter.Pronounce(lexicon, book, "catat"))
	fmt.Println(letter.Pronounce(lexicon, book, "tate"))
	// Output:
	// [[ei] [t] []] 1 0
	// {97 [{[{2 0}] [a]} {[] [ei]}]}
	// [{k 0 2 3} {a 0 2 3} {t 0 2 3} {a 3 2 1} {t 3 2 1}] 0
	// [{t 0 3 0} {ei 1 3 1} {t 2 3 0}] 0
}
