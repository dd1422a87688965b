package letter_test

import (
	"math/rand/v2"
	"strings"
	"testing"

	"declaim/api"
	"declaim/letter"
)

// joints are written as left/right/to left/to right.
func joints(written ...string) []api.Joint {
	var all []api.Joint
	for _, w := range written {
		part := strings.Split(w, "/")
		all = append(all, api.Joint{Left: phones(part[0]), Right: phones(part[1]), ToLeft: phones(part[2]), ToRight: phones(part[3])})
	}
	return all
}

// wordsOf are pronunciations that are written with / between them.
func wordsOf(written string) [][]string {
	var words [][]string
	for word := range strings.SplitSeq(written, "/") {
		words = append(words, phones(word))
	}
	return words
}

func TestJoin(t *testing.T) {
	for _, c := range []struct {
		name        string
		joints      []api.Joint
		words, want string
	}{
		{"the chapter's", joints("/a/z/a"), "l e/a m i", "l e z/a m i"},
		{"the left side alone", joints("t//d/"), "a t/b", "a d/b"},
		{"both sides", joints("t/t/t/"), "a t/t b", "a t/b"},
		{"right does not fit", joints("t/t/t/"), "a t/b t", "a t/b t"},
		{"left does not fit", joints("t/t/t/"), "t a/t b", "t a/t b"},
		{"several phones", joints("p q/r s/x/y z"), "o p q/r s t", "o x/y z t"},
		{"whole pronunciations", joints("p q/r s/x/y z"), "p q/r s", "x/y z"},
		{"longer than the pronunciation", joints("p q r//x/", "/r s t/x/"), "q r/r s", "q r/r s"},
		{"the first that fits", joints("q//0/", "p//1/", "p//2/"), "p/p/a", "1/1/a"},
		{"phones, not bytes", joints("p//x/", "/q/x/"), "op/qr", "op/qr"},
		{"empty pronunciations", joints("p//x/", "/q/x/x"), "p//q", "x/x/x"},
		{"from left to right", joints("a/b/a/a"), "a/b/b/c/b", "a/a/a/c/b"},
		{"not again", joints("a/b/a/b b", "b b//c/"), "a/b/d", "a/c/d"},
		{"as they are then", joints("a/b//a b a"), "a/b/b", "/a b/a b a"},
		{"nothing is left", joints("a/b//"), "a/b", "/"},
		{"one word", joints("a//b/", "/a/b/"), "a", "a"},
		{"no joints", nil, "a b/c//d", "a b/c//d"},
	} {
		got, e := letter.Join(c.joints, wordsOf(c.words))
		isOK(t, c.name, e)
		isSame(t, c.name, got, wordsOf(c.want))
	}
	got, e := letter.Join(joints("a//b/"), nil)
	isOK(t, "no words", e)
	isSame(t, "no words", got, [][]string{})
}

// TestJoinBounds: the greatest numbers of words, joints and phones.
func TestJoinBounds(t *testing.T) {
	many := make([]api.Joint, api.MaxJoints)
	for i := range many {
		many[i].Left = phones("q")
	}
	many[api.MaxJoints-1] = joints("p/p/p x/p")[0]
	words := make([][]string, 100)
	for i := range words {
		words[i] = phones("p")
	}
	got, e := letter.Join(many, words)
	isOK(t, "the longest lists", e)
	isSame(t, "the longest lists", got, wordsOf(strings.Repeat("p x/", 99)+"p"))
	grow, shrink := joints("a//p p/")[0], joints("p p/b/p/b")[0]
	with := func(n int, last string) []string { return append(manyPhones(n), last) }
	got, e = letter.Join([]api.Joint{grow}, [][]string{with(118, "a"), phones("b")})
	isOK(t, "120 phones", e)
	isSame(t, "120 phones", got, [][]string{manyPhones(120), phones("b")})
	withoutResults(t,
		join("the left one", api.ErrLong, []api.Joint{grow}, with(119, "a"), phones("b")),
		join("the right one", api.ErrLong, joints("b/p//p p"), phones("b"), manyPhones(120)),
		join("the last one", api.ErrLong, joints("b/p/b/p p"), nil, phones("b"), manyPhones(120)),
		// the second pair would make it shorter again
		join("in between", api.ErrLong, []api.Joint{joints("c/p/c/p p")[0], shrink}, phones("c"), manyPhones(120), phones("b")))
	got, e = letter.Join([]api.Joint{shrink}, [][]string{phones("c"), manyPhones(120), phones("b")})
	isOK(t, "shorter", e)
	isSame(t, "shorter", got, [][]string{phones("c"), manyPhones(119), phones("b")})
}

func randomJoints(r *rand.Rand) []api.Joint {
	var all []api.Joint
	for range r.IntN(6) {
		j := api.Joint{Left: randomPiece(r, 2), Right: randomPiece(r, 2), ToLeft: randomPiece(r, 3), ToRight: randomPiece(r, 3)}
		if len(j.Left)+len(j.Right) > 0 {
			all = append(all, j)
		}
	}
	return all
}

func TestJoinLikeModel(t *testing.T) {
	changed := 0
	for seed := range uint64(2000) {
		r := rand.New(rand.NewPCG(seed, 7))
		j := randomJoints(r)
		var words [][]string
		for range r.IntN(8) {
			words = append(words, randomPiece(r, 5))
		}
		got, e := letter.Join(j, words)
		isOK(t, "Join", e)
		want := modelJoin(j, words)
		isSame(t, "Join", got, want)
		plain, e := letter.Join(nil, words)
		isOK(t, "without joints", e)
		isSame(t, "without joints", plain, words)
		if len(got) > 0 && strings.Join(got[0], " ") != strings.Join(words[0], " ") {
			changed++
		}
	}
	if changed < 300 {
		t.Errorf("only %d", changed)
	}
}

func TestAccent(t *testing.T) {
	a := []api.Foreign{
		{Phone: "r", Steps: [][]string{phones("R"), phones("R x")}},
		{Phone: "s", Steps: [][]string{nil, phones("1"), phones("2"), phones("r r r"), phones("4")}},
	}
	for degree, want := range []string{"r a r", "R a R", "R x a R x", "R x a R x", "R x a R x", "R x a R x"} {
		got, e := letter.Accent(a[:1], phones("r a r"), degree)
		isOK(t, "r", e)
		isSame(t, "r", got, phones(want))
	}
	for degree, want := range []string{"s R ss", "R ss", "1 R ss", "2 R ss", "r r r R ss", "4 R ss"} {
		got, e := letter.Accent(a, phones("s R ss"), degree)
		isOK(t, "s", e)
		isSame(t, "s", got, phones(want))
	}
	got, e := letter.Accent(nil, nil, 5)
	isOK(t, "nothing", e)
	isSame(t, "nothing", got, []string{})
}

func TestAccentBounds(t *testing.T) {
	a := []api.Foreign{{Phone: "p", Steps: [][]string{phones("q q q"), phones("q q")}}, {Phone: "x", Steps: [][]string{nil}}}
	for _, c := range []struct{ phones, degree, want int }{{120, 0, 120}, {40, 1, 120}, {60, 2, 120}, {60, 5, 120}} {
		got, e := letter.Accent(a, manyPhones(c.phones), c.degree)
		if e != api.OK || len(got) != c.want {
			t.Errorf("%+v: %d %d", c, len(got), e)
		}
	}
	withoutResults(t,
		accent("41 phones", api.ErrLong, a, manyPhones(41), 1),
		accent("61 phones", api.ErrLong, a, manyPhones(61), 4),
		accent("120 phones", api.ErrLong, a, manyPhones(120), 2))
	// what is too long on the way alone is not too long
	mixed := append(manyPhones(40), "x", "x")
	got, e := letter.Accent(a, mixed, 1)
	if e != api.OK || len(got) != 120 {
		t.Errorf("mixed: %d %d", len(got), e)
	}
}
