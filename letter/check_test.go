package letter_test

import (
	"fmt"
	"strings"
	"testing"

	"declaim/api"
	"declaim/letter"
)

// rightWords are words, wrongWords are none; with phones likewise.
func rightWords() []string {
	return []string{"a", "!", "\x7f", "\u0085", "\u00a0", "\u00e9t\u00e9", "\ufffd", "\U0010ffff", "\ud7ff\ue000",
		strings.Repeat("a", 40), strings.Repeat("\U0001d11e", 40)}
}

func wrongWords() []string {
	return []string{"", " ", "a b", "a\x00", "\x1fa", "a\n", "\xff", "a\xc3", "\xed\xa0\x80", "\xc0\xaf", "\xf4\x90\x80\x80",
		strings.Repeat("a", 41), strings.Repeat("\U0001d11e", 41)}
}

func rightPhones() []string { return []string{"a", "!", "~", "a:~!@#$%", "\"\\"} }

func wrongPhones() []string {
	return []string{"", " ", "a b", "\x20", "\x7f", "a\x80", "\u00e9", "a\x00", "123456789"}
}

func manyPhones(n int) []string {
	all := make([]string, n)
	for i := range all {
		all[i] = "p"
	}
	return all
}

// manyWords are words of two letters.
func manyWords(n int) []api.Spelled {
	all := make([]api.Spelled, n)
	for i := range all {
		all[i].Word = string([]byte{byte('!' + i/90), byte('!' + i%90)})
	}
	return all
}

func manyPairs(n int) []api.Pair {
	all := make([]api.Pair, n)
	for i := range all {
		all[i].Letter = rune('!' + i)
	}
	return all
}

func manyRules(n int) []api.Choice {
	all := make([]api.Choice, n)
	for i := range n - 1 {
		all[i].Tests = []api.Condition{when(-1, 'a')}
	}
	return all
}

func manyForeigns(n int) []api.Foreign {
	all := make([]api.Foreign, n)
	for i := range all {
		all[i] = api.Foreign{Phone: string([]byte{byte('!' + i/90), byte('!' + i%90)}), Steps: [][]string{nil}}
	}
	return all
}

// judge checks that a function finds things valid or not.
func judge[V any](t *testing.T, kind string, valid func(V) bool, want bool, all ...V) {
	t.Helper()
	for i, v := range all {
		if valid(v) != want {
			t.Errorf("%s %d, %.200s: %v", kind, i, fmt.Sprintf("%q", fmt.Sprint(v)), !want)
		}
	}
}

func TestValidLexicon(t *testing.T) {
	type lexicon = []api.Spelled
	entries := func(all ...api.Spelled) lexicon { return all }
	judge(t, "lexicon", letter.ValidLexicon, true,
		nil, lexicon{}, lexiconE(),
		entries(spelled("a", "")),
		entries(spelled("a", "x"), spelled("ab", "x"), spelled("b", "")),
		entries(spelled("~", ""), spelled("\u00e9", ""), spelled("\u4e16", ""), spelled("\U0001d11e", "")),
		// byte by byte, not by code units of 16 bits
		entries(spelled("\uffff", ""), spelled("\U00010000", "")),
		entries(api.Spelled{Word: "a", Phones: manyPhones(120)}),
		manyWords(api.MaxLexicon))
	judge(t, "lexicon", letter.ValidLexicon, false,
		entries(spelled("b", ""), spelled("a", "")),
		entries(spelled("a", "x"), spelled("a", "y")),
		entries(spelled("a", ""), spelled("b", ""), spelled("ab", "")),
		entries(spelled("\U00010000", ""), spelled("\uffff", "")),
		entries(api.Spelled{Word: "a", Phones: manyPhones(121)}),
		manyWords(api.MaxLexicon+1))
	for _, word := range rightWords() {
		judge(t, "word", letter.ValidLexicon, true, entries(spelled(word, "p")))
	}
	for _, word := range wrongWords() {
		judge(t, "word", letter.ValidLexicon, false, entries(spelled(word, "p")))
	}
	for _, phone := range rightPhones() {
		judge(t, "phone", letter.ValidLexicon, true, entries(api.Spelled{Word: "a", Phones: []string{"p", phone}}))
	}
	for _, phone := range wrongPhones() {
		judge(t, "phone", letter.ValidLexicon, false, entries(api.Spelled{Word: "a", Phones: []string{"p", phone}}))
	}
}

func TestValidPairs(t *testing.T) {
	type pairs = []api.Pair
	judge(t, "pairs", letter.ValidPairs, true,
		nil, pairs{}, pairsE(),
		pairs{pair('a', "p q r", 1000)},
		// the order of pieces
		pairs{pair('a', "", 5), pair('a', "p", 4), pair('a', "p p", 3), pair('a', "p q", 2), pair('a', "pq", 1), pair('a', "q", 0), pair('b', "", 9)},
		pairs{pair('!', "", 0), pair(0xd7ff, "", 0), pair(0xe000, "", 0), pair(0x10ffff, "", 0)},
		manyPairs(api.MaxPairs))
	judge(t, "pairs", letter.ValidPairs, false,
		pairs{pair('b', "", 0), pair('a', "", 0)},
		pairs{pair('a', "p", 0), pair('a', "p", 1)},
		pairs{pair('a', "", 0), pair('a', "", 0)},
		pairs{pair('a', "p", 0), pair('a', "", 0)},
		pairs{pair('a', "pq", 0), pair('a', "p q", 0)},
		pairs{pair('a', "p", -1)}, pairs{pair('a', "p", 1001)},
		pairs{pair('a', "p p p p", 0)},
		pairs{pair(0, "", 0)}, pairs{pair(-1, "", 0)}, pairs{pair(' ', "", 0)},
		pairs{pair(0xd800, "", 0)}, pairs{pair(0xdfff, "", 0)}, pairs{pair(0x110000, "", 0)},
		manyPairs(api.MaxPairs+1))
	for _, phone := range rightPhones() {
		judge(t, "phone", letter.ValidPairs, true, pairs{{Letter: 'a', Piece: []string{"p", "p", phone}}})
	}
	for _, phone := range wrongPhones() {
		judge(t, "phone", letter.ValidPairs, false, pairs{{Letter: 'a', Piece: []string{"p", "p", phone}}})
	}
}

func TestValidBook(t *testing.T) {
	rules := func(all ...api.Choice) api.Book { return book(list('a', all...)) }
	condition := func(all ...api.Condition) api.Book { return rules(choice("p", all...), choice("q")) }
	judge(t, "book", letter.ValidBook, true,
		api.Book{}, book(), bookE(),
		rules(choice("")), rules(choice("p p p")),
		book(list('!', choice("")), list(0xd7ff, choice("")), list(0xe000, choice("")), list(0x10ffff, choice(""))),
		rules(manyRules(1000)...),
		condition(when(-3, 0)), condition(when(3, 'a')), condition(when(-1, '!')), condition(when(1, 0x10ffff)),
		condition(when(-3, 'a'), when(-2, 'b')), condition(when(-1, 0), when(1, 0)), condition(when(2, 0), when(3, 0)))
	judge(t, "book", letter.ValidBook, false,
		rules(), book(list('a', choice("")), list('b')),
		book(list('b', choice("")), list('a', choice(""))),
		book(list('a', choice("")), list('a', choice(""))),
		book(list(0, choice(""))), book(list(' ', choice(""))), book(list(-1, choice(""))),
		book(list(0xd800, choice(""))), book(list(0x110000, choice(""))),
		rules(manyRules(1001)...),
		rules(choice("p"), choice("q")),
		rules(choice("p"), choice("q", when(1, 'a'))), rules(choice("p", when(1, 'a'))),
		rules(choice("p p p p")), rules(choice("p p p p", when(1, 'a')), choice("")),
		condition(when(0, 'a')), condition(when(-4, 'a')), condition(when(4, 'a')), condition(when(-1<<63, 'a')),
		condition(when(1, ' ')), condition(when(1, -1)), condition(when(1, 0xdabc)), condition(when(1, 0x110000)),
		condition(when(1, 'a'), when(-1, 'a')), condition(when(1, 'a'), when(1, 'b')), condition(when(-1, 'a'), when(0, 'b')),
		condition(when(-1, 'a'), when(1, ' ')),
		condition(when(-1, 'a'), when(1, 'a'), when(2, 'a')))
	for _, phone := range wrongPhones() {
		judge(t, "phone", letter.ValidBook, false, rules(api.Choice{Piece: []string{"p", phone}}))
	}
}

// outcome is of a call: the error that it should have, the one that it has, and the other results.
type outcome struct {
	name    string
	want    api.Errno
	got     api.Errno
	results []any
}

// withoutResults checks the errors of calls, and that all other results are zero values.
func withoutResults(t *testing.T, calls ...outcome) {
	t.Helper()
	for _, c := range calls {
		if c.got != c.want {
			t.Errorf("%s: %d, not %d", c.name, c.got, c.want)
		}
		for _, result := range c.results {
			if zero := fmt.Sprint(result); zero != "[]" && zero != "0" && zero != "{[]}" && zero != "{0 0 0 0}" {
				t.Errorf("%s: %s", c.name, zero)
			}
		}
	}
}

func align(name string, want api.Errno, p []api.Pair, word string, phones []string) outcome {
	pieces, cost, e := letter.Align(p, word, phones)
	return outcome{"Align, " + name, want, e, []any{pieces, cost}}
}

func learn(name string, want api.Errno, l []api.Spelled, p []api.Pair, o api.Learning) outcome {
	b, e := letter.Learn(l, p, o)
	return outcome{"Learn, " + name, want, e, []any{b}}
}

func validate(name string, want api.Errno, l []api.Spelled, p []api.Pair, o api.Learning, folds int) outcome {
	s, e := letter.Validate(l, p, o, folds)
	return outcome{"Validate, " + name, want, e, []any{s}}
}

func say(name string, want api.Errno, b api.Book, word string) outcome {
	s, e := letter.Say(b, word)
	return outcome{"Say, " + name, want, e, []any{s}}
}

func split(name string, want api.Errno, l []api.Spelled, word string) outcome {
	s, e := letter.Split(l, word)
	return outcome{"Split, " + name, want, e, []any{s}}
}

func pronounce(name string, want api.Errno, l []api.Spelled, b api.Book, word string) outcome {
	s, e := letter.Pronounce(l, b, word)
	return outcome{"Pronounce, " + name, want, e, []any{s}}
}

func join(name string, want api.Errno, j []api.Joint, words ...[]string) outcome {
	s, e := letter.Join(j, words)
	return outcome{"Join, " + name, want, e, []any{s}}
}

func accent(name string, want api.Errno, a []api.Foreign, phones []string, degree int) outcome {
	s, e := letter.Accent(a, phones, degree)
	return outcome{"Accent, " + name, want, e, []any{s}}
}

func TestAlignErrors(t *testing.T) {
	wrong := []api.Pair{pair('b', "", 0), pair('a', "", 0)}
	withoutResults(t,
		align("too many pairs", api.ErrLong, manyPairs(api.MaxPairs+1), "", []string{""}),
		align("pairs", api.ErrArg, wrong, "a", nil),
		align("too many phones", api.ErrArg, pairsE(), "cat", manyPhones(121)),
		align("no alignment", api.ErrNone, pairsE(), "cat", phones("k t")),
		align("no phones", api.ErrNone, pairsE(), "cat", nil),
		align("phones left", api.ErrNone, pairsE(), "e", phones("e e")),
		align("no pairs", api.ErrNone, nil, "e", nil),
		align("a letter without pairs", api.ErrNone, pairsE(), "ex", phones("e")))
	for _, word := range wrongWords() {
		withoutResults(t, align("a word", api.ErrArg, pairsE(), word, nil))
	}
	for _, phone := range wrongPhones() {
		withoutResults(t, align("a phone", api.ErrArg, pairsE(), "a", []string{phone}))
	}
}

func TestLearnErrors(t *testing.T) {
	good := learning(2, 1, 10)
	wrongPairs, wrongLexicon := []api.Pair{pair('a', "", -1)}, []api.Spelled{spelled("", "")}
	for _, c := range []struct {
		name string
		want api.Errno
		l    []api.Spelled
		p    []api.Pair
		o    api.Learning
	}{
		{"too many words", api.ErrLong, manyWords(api.MaxLexicon + 1), wrongPairs, learning(0, 0, 0)},
		{"too many pairs", api.ErrLong, wrongLexicon, manyPairs(api.MaxPairs + 1), learning(0, 0, 0)},
		{"lexicon", api.ErrArg, wrongLexicon, pairsE(), good},
		{"pairs", api.ErrArg, lexiconE(), wrongPairs, good},
		{"Reach 0", api.ErrArg, lexiconE(), pairsE(), learning(0, 1, 10)},
		{"Reach -1", api.ErrArg, lexiconE(), pairsE(), learning(-1, 1, 10)},
		{"Reach 4", api.ErrArg, lexiconE(), pairsE(), learning(4, 1, 10)},
		{"Least 0", api.ErrArg, lexiconE(), pairsE(), learning(2, 0, 10)},
		{"Least 1001", api.ErrArg, lexiconE(), pairsE(), learning(2, 1001, 10)},
		{"Most 0", api.ErrArg, lexiconE(), pairsE(), learning(2, 1, 0)},
		{"Most 501", api.ErrArg, nil, nil, learning(2, 1, 501)},
		{"bounds", api.OK, nil, nil, learning(1, 1, 1)},
		{"upper bounds", api.OK, nil, nil, learning(3, 1000, 500)},
		{"the longest lists", api.OK, manyWords(api.MaxLexicon), nil, good},
	} {
		withoutResults(t, learn(c.name, c.want, c.l, c.p, c.o), validate(c.name, c.want, c.l, c.p, c.o, 2))
	}
	withoutResults(t,
		validate("1 fold", api.ErrArg, lexiconE(), pairsE(), good, 1),
		validate("11 folds", api.ErrArg, lexiconE(), pairsE(), good, 11),
		validate("-2 folds", api.ErrArg, nil, nil, good, -2),
		validate("10 folds", api.OK, nil, pairsE(), good, 10),
		validate("folds and too many words", api.ErrLong, manyWords(api.MaxLexicon+1), pairsE(), good, 1))
}

func TestSayErrors(t *testing.T) {
	wrongBook := book(list('a'))
	wrong := []api.Spelled{spelled("b", "x"), spelled("a", "x")}
	long := manyWords(api.MaxLexicon + 1)
	withoutResults(t,
		say("book", api.ErrArg, wrongBook, "b"),
		say("no rules", api.OK, api.Book{}, "cat"),
		split("too many words", api.ErrLong, long, ""),
		split("lexicon", api.ErrArg, wrong, "ba"),
		split("no lexicon", api.ErrNone, nil, "cat"),
		split("the word alone", api.ErrNone, lexiconE(), "cat"),
		split("a part without phones", api.ErrNone, []api.Spelled{spelled("a", ""), spelled("c", "")}, "abc"),
		pronounce("too many words", api.ErrLong, long, wrongBook, ""),
		pronounce("lexicon", api.ErrArg, wrong, bookE(), "b"),
		pronounce("book", api.ErrArg, lexiconE(), wrongBook, "cat"),
		pronounce("nothing", api.OK, nil, api.Book{}, "cat"))
	for _, word := range wrongWords() {
		withoutResults(t, say("a word", api.ErrArg, bookE(), word), split("a word", api.ErrArg, lexiconE(), word), pronounce("a word", api.ErrArg, lexiconE(), bookE(), word))
	}
	for _, word := range rightWords() {
		withoutResults(t, say("a word", api.OK, api.Book{}, word), split("a word", api.ErrNone, lexiconE(), word), pronounce("a word", api.OK, nil, api.Book{}, word))
	}
}

func TestJoinErrors(t *testing.T) {
	joint := func(left, right, toLeft, toRight string) []api.Joint {
		return []api.Joint{{Left: phones("p")}, {Left: phones(left), Right: phones(right), ToLeft: phones(toLeft), ToRight: phones(toRight)}}
	}
	many := make([][]string, 101)
	withoutResults(t,
		join("too many joints", api.ErrLong, make([]api.Joint, api.MaxJoints+1), []string{""}),
		join("too many words", api.ErrLong, make([]api.Joint, 1), many...),
		join("a joint of nothing", api.ErrArg, joint("", "", "p", "p")),
		join("long left", api.ErrArg, joint("p p p p", "", "", "")),
		join("long right", api.ErrArg, joint("", "p p p p", "", "")),
		join("long to left", api.ErrArg, joint("p", "", "p p p p", "")),
		join("long to right", api.ErrArg, joint("p", "", "", "p p p p")),
		join("a long pronunciation", api.ErrArg, nil, nil, manyPhones(121)))
	for _, wrong := range wrongPhones() {
		list := []string{wrong}
		withoutResults(t,
			join("left", api.ErrArg, []api.Joint{{Left: list}}), join("right", api.ErrArg, []api.Joint{{Right: list}}),
			join("to left", api.ErrArg, []api.Joint{{Left: phones("p"), ToLeft: list}}), join("to right", api.ErrArg, []api.Joint{{Left: phones("p"), ToRight: list}}),
			join("a pronunciation", api.ErrArg, nil, nil, list))
	}
}

func TestAccentErrors(t *testing.T) {
	foreign := func(phone string, steps ...string) api.Foreign {
		f := api.Foreign{Phone: phone}
		for _, s := range steps {
			f.Steps = append(f.Steps, phones(s))
		}
		return f
	}
	type entries = []api.Foreign
	withoutResults(t,
		accent("too many entries", api.ErrArg, manyForeigns(201), nil, 0),
		accent("most entries", api.OK, manyForeigns(200), nil, 0),
		accent("equal entries", api.ErrArg, entries{foreign("p", "q"), foreign("p", "q")}, nil, 0),
		accent("falling entries", api.ErrArg, entries{foreign("q", "q"), foreign("p", "q")}, nil, 0),
		accent("no steps", api.ErrArg, entries{foreign("p")}, nil, 0),
		accent("6 steps", api.ErrArg, entries{foreign("p", "", "", "", "", "", "")}, nil, 0),
		accent("5 steps", api.OK, entries{foreign("p", "", "", "", "", "")}, nil, 0),
		accent("a long step", api.ErrArg, entries{foreign("p", "", "p p p p")}, nil, 0),
		accent("degree -1", api.ErrArg, nil, nil, -1),
		accent("degree 6", api.ErrArg, nil, nil, 6),
		accent("too many phones", api.ErrArg, nil, manyPhones(121), 0))
	for _, wrong := range wrongPhones() {
		list := []string{wrong}
		withoutResults(t,
			accent("an entry", api.ErrArg, entries{foreign(wrong, "q")}, nil, 0),
			accent("a step", api.ErrArg, entries{{Phone: "p", Steps: [][]string{nil, list}}}, nil, 0),
			accent("a phone", api.ErrArg, nil, list, 0))
	}
}
