package letter_test

import (
	"math/rand/v2"
	"slices"
	"strings"
	"testing"

	"declaim/api"
	"declaim/letter"
)

// learns checks the rules of a letter.
func learns(t *testing.T, l []api.Spelled, p []api.Pair, o api.Learning, of rune, rules ...api.Choice) {
	t.Helper()
	b, e := letter.Learn(l, p, o)
	isOK(t, "Learn", e)
	if !letter.ValidBook(b) {
		t.Errorf("not valid: %v", b)
	}
	for _, own := range b.Letters {
		if own.Letter == of {
			isSame(t, "rules of "+string(of), own.Rules, rules)
			return
		}
	}
	t.Errorf("no rules for %c: %v", of, b)
}

// pairsOf are pairs of an x with other phones than each other letter, which has none.
func pairsOf() []api.Pair {
	var p []api.Pair
	for c := 'a'; c <= 'w'; c++ {
		p = append(p, pair(c, "", 0))
	}
	return append(p, pair('x', "", 0), pair('x', "p", 0), pair('x', "q", 0), pair('x', "r", 0))
}

// examplesOf are words with one x each, and its pieces, written as word piece word piece ..; - is the empty piece.
func examplesOf(written string) []api.Spelled {
	fields := strings.Fields(written)
	var l []api.Spelled
	for i := 0; i < len(fields); i += 2 {
		l = append(l, spelled(fields[i], strings.TrimPrefix(fields[i+1], "-")))
	}
	return uniqueSorted(l, func(a, b api.Spelled) int { return strings.Compare(a.Word, b.Word) })
}

func TestLearnExample(t *testing.T) {
	b, e := letter.Learn(lexiconE(), pairsE(), learning(2, 1, 10))
	isOK(t, "Learn", e)
	isSame(t, "Learn", b, bookE())
	b, e = letter.Learn(append(lexiconE(), spelled("tea", "t i")), pairsE(), learning(2, 1, 10))
	isOK(t, "an entry without alignment", e)
	isSame(t, "an entry without alignment", b, bookE())
	b, e = letter.Learn(nil, pairsE(), learning(2, 1, 10))
	isOK(t, "no lexicon", e)
	isSame(t, "no lexicon", b, api.Book{})
	b, e = letter.Learn(lexiconE(), nil, learning(2, 1, 10))
	isOK(t, "no pairs", e)
	isSame(t, "no pairs", b, api.Book{})
}

// TestBestTest: each way in which a test is better than another one.
func TestBestTest(t *testing.T) {
	for _, c := range []struct {
		name     string
		examples string
		reach    int
		best     api.Choice
	}{
		{"the greatest quotient, not the greatest number", "axb p axc p axd p axe q fxb r", 1, choice("r", when(-1, 'f'))},
		{"the greatest number", "bxa r cxd p cxe p", 1, choice("p", when(-1, 'c'))},
		{"one condition before two", "caxd p eaxd p laxf q mgxd q nixbh q ojxkh q", 2, choice("q", when(2, 'h'))},
		{"before goes first", "axb p cxd q", 1, choice("p", when(-1, 'a'))},
		{"nothing before goes before letters", "axb p xb q", 1, choice("q", when(-1, 0))},
		{"behind goes before what is farther", "caxb p caxd q", 2, choice("p", when(1, 'b'))},
		{"two before goes before two behind", "caxbe p daxbf q", 2, choice("p", when(-2, 'c'))},
		{"two behind", "caxbe p caxbf q", 2, choice("p", when(2, 'e'))},
		{"three before", "ecaxbcf p dcaxbcg q", 3, choice("q", when(-3, 'd'))},
		{"three behind", "caxbcf p caxbcg q", 3, choice("p", when(3, 'f'))},
		{"three behind, out of reach", "caxbcf q caxbcg p", 2, choice("p", when(-1, 'a'))},
		{"letters by code point", "bx p ax q", 1, choice("q", when(-1, 'a'))},
		{"the first piece of several", "axb q axc p axd r", 1, choice("q", when(1, 'b'))},
		{"the empty piece comes first", "cxa p caxa - xa q daxa q", 1, choice("q", when(-1, 0))},
	} {
		b, e := letter.Learn(examplesOf(c.examples), pairsOf(), learning(c.reach, 1, 10))
		isOK(t, c.name, e)
		x := slices.IndexFunc(b.Letters, func(l api.Letter) bool { return l.Letter == 'x' })
		isSame(t, c.name, b.Letters[x].Rules[0], c.best)
	}
}

// TestTwoConditions: a test of two conditions where no single one is as good.
func TestTwoConditions(t *testing.T) {
	learns(t, examplesOf("axb p axc q dxb q dxc p axbe p axce q dxbe q dxce p"), pairsOf(), learning(1, 1, 10), 'x',
		choice("p", when(-1, 'a'), when(1, 'b')), choice("q", when(-1, 'a')), choice("q", when(1, 'b')), choice("p"))
	// e before a, and a before b behind, are as good: the first conditions decide, and -1 goes before -2
	learns(t, examplesOf("eaxb p eaxc p faxb p faxc q egxc q fgxb q fgxc r"), pairsOf(), learning(2, 1, 1), 'x',
		choice("p", when(-1, 'a'), when(1, 'b')), choice("q"))
}

func TestLeastAndMost(t *testing.T) {
	l := examplesOf("axb p axc p axd p exb q exc q fxb r")
	a, e, f := choice("p", when(-1, 'a')), choice("q", when(-1, 'e')), choice("r")
	learns(t, l, pairsOf(), learning(1, 1, 500), 'x', a, e, f)
	learns(t, l, pairsOf(), learning(1, 2, 500), 'x', a, e, f)
	learns(t, l, pairsOf(), learning(1, 3, 500), 'x', a, choice("q"))
	learns(t, l, pairsOf(), learning(1, 4, 500), 'x', choice("p"))
	learns(t, l, pairsOf(), learning(1, 1000, 500), 'x', choice("p"))
	learns(t, l, pairsOf(), learning(1, 1, 2), 'x', a, e, f)
	learns(t, l, pairsOf(), learning(1, 1, 1), 'x', a, choice("q"))
}

// TestDefault: the piece of the last rule.
func TestDefault(t *testing.T) {
	learns(t, examplesOf("axb p axc p axd p"), pairsOf(), learning(3, 1, 500), 'x', choice("p"))
	learns(t, examplesOf("axb r axc q"), pairsOf(), learning(1, 3, 500), 'x', choice("q"))
	// Reach 1 cannot tell these apart: the first test takes all examples away, and all of them count again
	learns(t, examplesOf("axb q caxb q aaxb p daxb p eaxb r"), pairsOf(), learning(1, 1, 500), 'x', choice("p", when(-1, 'a')), choice("p"))
	learns(t, examplesOf("axb q caxb q aaxb p daxb p exb r exbb r"), pairsOf(), learning(1, 1, 500), 'x',
		choice("r", when(-1, 'e')), choice("p", when(-1, 'a')), choice("p"))
}

func TestManyRules(t *testing.T) {
	var p []api.Pair
	var l []api.Spelled
	for i := range 600 {
		p = append(p, pair(rune(0x1000+i), "", 0))
		l = append(l, spelled(string(rune(0x1000+i))+"x", []string{"p", "q", "r"}[i%3]))
	}
	p = append([]api.Pair{pair('x', "p", 0), pair('x', "q", 0), pair('x', "r", 0)}, p...)
	for _, most := range []int{1, 2, 499, 500} {
		b, e := letter.Learn(l, p, learning(1, 1, most))
		isOK(t, "Learn", e)
		if rules := len(b.Letters[0].Rules); rules != most+1 || !letter.ValidBook(b) {
			t.Errorf("%d rules with conditions: %d in all", most, rules)
		}
	}
}

func TestLearnLikeModel(t *testing.T) {
	rules := 0
	forRandom(t, 400, 15, 5, func(r *rand.Rand, p []api.Pair, l []api.Spelled) {
		o := randomLearning(r)
		b, e := letter.Learn(l, p, o)
		isOK(t, "Learn", e)
		isSame(t, "Learn", b, modelLearn(l, p, o))
		if !letter.ValidBook(b) {
			t.Errorf("not valid: %v", b)
		}
		for _, own := range b.Letters {
			rules += len(own.Rules) - 1
		}
	})
	if rules < 1000 {
		t.Errorf("only %d rules", rules)
	}
}

// TestLearnedRules: each rule but the last one holds for enough examples of its letter.
func TestLearnedRules(t *testing.T) {
	forRandom(t, 200, 40, 6, func(r *rand.Rand, p []api.Pair, l []api.Spelled) {
		o := randomLearning(r)
		b, e := letter.Learn(l, p, o)
		isOK(t, "Learn", e)
		for _, own := range b.Letters {
			if len(own.Rules) > o.Most+1 {
				t.Errorf("%d rules, at most %d", len(own.Rules), o.Most)
			}
			for _, rule := range own.Rules[:len(own.Rules)-1] {
				if n := holdsFor(l, p, own.Letter, rule.Tests); n < o.Least {
					t.Errorf("%v holds for %d examples, at least %d", rule, n, o.Least)
				}
			}
		}
	})
}

// holdsFor counts the examples of a letter for which conditions hold.
func holdsFor(l []api.Spelled, p []api.Pair, of rune, conditions []api.Condition) int {
	n := 0
	for _, entry := range l {
		if _, _, e := letter.Align(p, entry.Word, entry.Phones); e != api.OK {
			continue
		}
		word := []rune(entry.Word)
		for at := range word {
			if word[at] == of && modelHolds(conditions, word, at) {
				n++
			}
		}
	}
	return n
}

// TestOnePieceForEach: where each letter always has the same piece, the rules pronounce all examples as they are.
func TestOnePieceForEach(t *testing.T) {
	for seed := range uint64(100) {
		r := rand.New(rand.NewPCG(seed, 5))
		var p []api.Pair
		for _, c := range []rune{'a', 'b', '\u00e9', 0x1d11e} {
			p = append(p, api.Pair{Letter: c, Piece: randomPiece(r, 3), Cost: r.IntN(1001)})
		}
		l := randomLexicon(r, p, 20, 6)
		b, e := letter.Learn(l, p, randomLearning(r))
		isOK(t, "Learn", e)
		for _, entry := range l {
			if _, _, e := letter.Align(p, entry.Word, entry.Phones); e == api.OK {
				sounds, e := letter.Say(b, entry.Word)
				isOK(t, entry.Word, e)
				isSame(t, entry.Word, phonesOf(sounds), entry.Phones)
			}
		}
	}
}

func TestValidate(t *testing.T) {
	o := learning(2, 1, 10)
	for _, c := range []struct {
		name  string
		l     []api.Spelled
		folds int
		want  api.Score
	}{
		{"chapter's lexicon", lexiconE(), 2, api.Score{Words: 3, Right: 1, Letters: 9, Good: 6}},
		{"each word for itself", lexiconE(), 3, api.Score{Words: 3, Right: 1, Letters: 9, Good: 6}},
		{"empty folds", lexiconE(), 10, api.Score{Words: 3, Right: 1, Letters: 9, Good: 6}},
		{"an entry without alignment is in no fold", append([]api.Spelled{spelled("a", "k")}, lexiconE()...), 2, api.Score{Words: 3, Right: 1, Letters: 9, Good: 6}},
		{"no lexicon", nil, 2, api.Score{}},
		{"one word", lexiconE()[:1], 2, api.Score{Words: 1, Letters: 3, Good: 1}},
		{"a letter without rules", []api.Spelled{spelled("ee", "e"), spelled("eet", "e t")}, 2, api.Score{Words: 2, Right: 1, Letters: 5, Good: 4}},
	} {
		got, e := letter.Validate(c.l, pairsE(), o, c.folds)
		isOK(t, c.name, e)
		isSame(t, c.name, got, c.want)
	}
	// ab is right, though none of its letters has the piece of its alignment
	p := []api.Pair{pair('a', "", 0), pair('a', "p", 0), pair('b', "", 0), pair('b', "p", 0)}
	got, e := letter.Validate([]api.Spelled{spelled("a", "p"), spelled("ab", "p"), spelled("b", "")}, p, o, 3)
	isOK(t, "other pieces", e)
	isSame(t, "other pieces", got, api.Score{Words: 3, Right: 1, Letters: 4, Good: 0})
}

func TestValidateLikeModel(t *testing.T) {
	var all api.Score
	better := 0
	forRandom(t, 300, 8, 5, func(r *rand.Rand, p []api.Pair, l []api.Spelled) {
		o, folds := randomLearning(r), 2+r.IntN(9)
		got, e := letter.Validate(l, p, o, folds)
		isOK(t, "Validate", e)
		isSame(t, "Validate", got, modelValidate(l, p, o, folds))
		all.Words += got.Words
		all.Right += got.Right
		all.Good += got.Good
		if got.Right > 0 {
			better++
		}
	})
	if all.Words < 600 || all.Right < 100 || all.Good < 500 || better < 50 {
		t.Errorf("only %+v, %d", all, better)
	}
}
