package letter_test

import (
	"cmp"
	"fmt"
	"math/rand/v2"
	"slices"
	"strings"
	"testing"

	"declaim/api"
)

// phones is a list of phones that are written with blanks between them.
func phones(written string) []string { return strings.Fields(written) }

func pair(letter rune, piece string, cost int) api.Pair {
	return api.Pair{Letter: letter, Piece: phones(piece), Cost: cost}
}

func spelled(word, pronunciation string) api.Spelled {
	return api.Spelled{Word: word, Phones: phones(pronunciation)}
}

func when(at int, letter rune) api.Condition { return api.Condition{At: at, Letter: letter} }

func choice(piece string, conditions ...api.Condition) api.Choice {
	return api.Choice{Tests: conditions, Piece: phones(piece)}
}

func list(letter rune, rules ...api.Choice) api.Letter {
	return api.Letter{Letter: letter, Rules: rules}
}

func book(lists ...api.Letter) api.Book { return api.Book{Letters: lists} }

// pairsE are the pairs of the chapter's examples.
func pairsE() []api.Pair {
	return []api.Pair{pair('a', "a", 0), pair('a', "ei", 1), pair('c', "k", 0), pair('c', "s", 1), pair('e', "", 0), pair('e', "e", 1), pair('t', "t", 0)}
}

// lexiconE is the lexicon from which the chapter's examples learn.
func lexiconE() []api.Spelled {
	return []api.Spelled{spelled("ace", "ei s"), spelled("ate", "ei t"), spelled("cat", "k a t")}
}

// bookE is what is learned from lexiconE with Reach 2, Least 1 and Most 10.
func bookE() api.Book {
	return book(
		list('a', choice("ei", when(-1, 0)), choice("a")),
		list('c', choice("k", when(-1, 0)), choice("s")),
		list('e', choice("")),
		list('t', choice("t")))
}

func learning(reach, least, most int) api.Learning {
	return api.Learning{Reach: reach, Least: least, Most: most}
}

// isSame compares results as they are printed, where nil and empty lists are the same, and phones have no blanks.
func isSame(t *testing.T, name string, got, want any) {
	t.Helper()
	if fmt.Sprint(got) != fmt.Sprint(want) {
		t.Errorf("%s: %v, not %v", name, got, want)
	}
}

func isOK(t *testing.T, name string, e api.Errno) {
	t.Helper()
	if e != api.OK {
		t.Errorf("%s: error %d", name, e)
	}
}

// someOf returns one of a few elements.
func someOf[E any](r *rand.Rand, elements ...E) E { return elements[r.IntN(len(elements))] }

// uniqueSorted sorts a list and leaves out what occurs again.
func uniqueSorted[E any](all []E, compare func(a, b E) int) []E {
	slices.SortFunc(all, compare)
	return slices.CompactFunc(all, func(a, b E) bool { return compare(a, b) == 0 })
}

func randomLetter(r *rand.Rand) rune { return someOf(r, 'a', 'a', 'b', '\u00e9', 0x1d11e) }

func randomWord(r *rand.Rand, most int) string {
	var word []rune
	for range 1 + r.IntN(most) {
		word = append(word, randomLetter(r))
	}
	return string(word)
}

func randomPiece(r *rand.Rand, most int) []string {
	var piece []string
	for range r.IntN(most + 1) {
		piece = append(piece, someOf(r, "p", "p", "pq", "q"))
	}
	return piece
}

func randomPairs(r *rand.Rand) []api.Pair {
	var pairs []api.Pair
	for range 3 + r.IntN(20) {
		pairs = append(pairs, api.Pair{Letter: randomLetter(r), Piece: randomPiece(r, 3), Cost: r.IntN(3)})
	}
	return uniqueSorted(pairs, func(a, b api.Pair) int {
		return cmp.Or(cmp.Compare(a.Letter, b.Letter), slices.Compare(a.Piece, b.Piece))
	})
}

// randomPhones are phones that pairs can give a word, where the letters have pairs; sometimes others.
func randomPhones(r *rand.Rand, p []api.Pair, word string) []string {
	if r.IntN(5) == 0 {
		return randomPiece(r, 6)
	}
	var all []string
	for _, letter := range word {
		own := slices.DeleteFunc(slices.Clone(p), func(p api.Pair) bool { return p.Letter != letter })
		if len(own) > 0 {
			all = append(all, someOf(r, own...).Piece...)
		}
	}
	return all
}

func randomLexicon(r *rand.Rand, p []api.Pair, words, letters int) []api.Spelled {
	var l []api.Spelled
	for range words {
		word := randomWord(r, letters)
		l = append(l, api.Spelled{Word: word, Phones: randomPhones(r, p, word)})
	}
	return uniqueSorted(l, func(a, b api.Spelled) int { return strings.Compare(a.Word, b.Word) })
}

func randomLearning(r *rand.Rand) api.Learning {
	return learning(1+r.IntN(3), someOf(r, 1, 1, 2, 3, 6), someOf(r, 1, 2, 3, 10, 500))
}

func randomBook(r *rand.Rand) api.Book {
	var b api.Book
	for _, letter := range []rune{'a', 'b', '\u00e9', 0x1d11e} {
		if r.IntN(4) == 0 {
			continue
		}
		l := api.Letter{Letter: letter}
		for range r.IntN(4) {
			tests := []api.Condition{when(r.IntN(3)-3, someOf(r, 0, randomLetter(r)))}
			if r.IntN(2) == 0 {
				tests = append(tests, when(1+r.IntN(3), someOf(r, 0, randomLetter(r))))
			}
			l.Rules = append(l.Rules, api.Choice{Tests: tests, Piece: randomPiece(r, 3)})
		}
		l.Rules = append(l.Rules, api.Choice{Piece: randomPiece(r, 3)})
		b.Letters = append(b.Letters, l)
	}
	return b
}

// forRandom calls a check with random pairs, and a lexicon for them.
func forRandom(t *testing.T, seeds uint64, words, letters int, check func(r *rand.Rand, p []api.Pair, l []api.Spelled)) {
	for seed := range seeds {
		if t.Failed() {
			t.Fatalf("before seed %d", seed)
		}
		r := rand.New(rand.NewPCG(seed, 3))
		p := randomPairs(r)
		check(r, p, randomLexicon(r, p, 1+r.IntN(words), letters))
	}
}
