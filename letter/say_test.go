package letter_test

import (
	"math/rand/v2"
	"slices"
	"strings"
	"testing"

	"declaim/api"
	"declaim/letter"
)

func phonesOf(sounds []api.Sound) []string {
	var all []string
	for _, s := range sounds {
		all = append(all, s.Phone)
	}
	return all
}

func TestSay(t *testing.T) {
	sounds, e := letter.Say(bookE(), "cat")
	isOK(t, "cat", e)
	isSame(t, "cat", sounds, []api.Sound{{Phone: "k", From: 0, By: api.ReasonRule, Index: 0}, {Phone: "a", From: 1, By: api.ReasonRule, Index: 1}, {Phone: "t", From: 2, By: api.ReasonRule, Index: 0}})
	b := book(
		list('a', choice("1", when(-3, 'b'), when(3, 'b')), choice("2", when(-1, 'b'), when(1, 0)), choice("3 4 5", when(2, 0)), choice("", when(1, 'a')), choice("6")),
		list('\u00e9', choice("7")))
	for word, want := range map[string][]api.Sound{
		"b":             nil,
		"xyz":           nil,
		"a":             {{Phone: "3", Index: 2}, {Phone: "4", Index: 2}, {Phone: "5", Index: 2}},
		"b\u00e9":       {{Phone: "7", From: 1}},
		"ba":            {{Phone: "2", From: 1, Index: 1}},
		"bxxaxxb":       {{Phone: "1", From: 3, Index: 0}},
		"axx":           {{Phone: "6", From: 0, Index: 4}},
		"aaxx":          {{Phone: "6", From: 1, Index: 4}},
		"\u00e9\u00e9a": {{Phone: "7", From: 0}, {Phone: "7", From: 1}, {Phone: "3", From: 2, Index: 2}, {Phone: "4", From: 2, Index: 2}, {Phone: "5", From: 2, Index: 2}},
	} {
		for i := range want {
			want[i].By = api.ReasonRule
		}
		sounds, e := letter.Say(b, word)
		isOK(t, word, e)
		isSame(t, word, sounds, want)
	}
	sounds, e = letter.Say(book(list('a', choice("p q r"))), strings.Repeat("a", 40))
	if e != api.OK || len(sounds) != 120 || sounds[119].From != 39 {
		t.Errorf("the longest pronunciation: %v %d", sounds, e)
	}
}

func lexiconOf(words string) []api.Spelled {
	var l []api.Spelled
	for _, word := range strings.Fields(words) {
		l = append(l, spelled(word, strings.Join(strings.Split(word, ""), " ")))
	}
	return uniqueSorted(l, func(a, b api.Spelled) int { return strings.Compare(a.Word, b.Word) })
}

func TestSplit(t *testing.T) {
	for _, c := range []struct{ lexicon, word, want string }{
		{"at cat nap catnap", "catnap", "cat nap"},
		{"at cat nap catnap", "catat", "cat at"},
		{"at cat nap", "catnapat", "cat nap at"},
		{"a b c ab bc", "abc", "ab c"},
		{"a b c bc", "abc", "a bc"},
		{"a ab abc bcd cd d", "abcd", "abc d"},
		{"a ab bcd cd", "abcd", "ab cd"},
		{"a b c d e abcd", "abcde", "abcd e"},
		{"a ab abc cde de bcde", "abcde", "abc de"},
		{"ab c de abc d e f def", "abcdef", "abc def"},
		{"ab cd ef abc de f", "abcdef", "abc de f"},
		{"abcd e f abc def", "abcdef", "abc def"},
		{"a", "aa", "a a"},
		{"a aa aaa", "aaaaa", "aaa aa"},
		{"a aa aaaaa", "aaaaa", "aa aa a"},
	} {
		got, e := letter.Split(lexiconOf(c.lexicon), c.word)
		isOK(t, c.word, e)
		isSame(t, c.word, got, phones(c.want))
	}
	l := []api.Spelled{spelled("\u00e9", "e"), spelled("\u00e9t", ""), spelled("\U0001d11e", "g")}
	got, e := letter.Split(l, "\u00e9t\U0001d11e\u00e9")
	isOK(t, "letters of several bytes", e)
	isSame(t, "letters of several bytes", got, []string{"\u00e9t", "\U0001d11e", "\u00e9"})
	for _, c := range []struct{ lexicon, word string }{
		{"at cat nap", "cat"}, {"catnap", "catnap"}, {"cat", "catnap"}, {"nap", "catnap"}, {"cat nap", "catxnap"}, {"cat nap", "catnapx"}, {"", "a"}, {"a aab", "aaaabb"},
	} {
		withoutResults(t, split(c.word, api.ErrNone, lexiconOf(c.lexicon), c.word))
	}
	got, e = letter.Split(lexiconOf("a"), strings.Repeat("a", 40))
	if e != api.OK || len(got) != 40 {
		t.Errorf("the longest word: %v %d", got, e)
	}
	withoutResults(t, split("the longest word", api.ErrNone, lexiconOf("a aa aaa ab"), strings.Repeat("a", 39)+"c"))
}

func TestPronounce(t *testing.T) {
	l := []api.Spelled{spelled("at", "a t"), spelled("cat", "k a t"), spelled("catnap", "x"), spelled("nap", "n a p"), spelled("\u00e9", ""), spelled("\u00e9\u00e9a", "e")}
	b := bookE()
	for word, want := range map[string][]api.Sound{
		"catnap":             {{Phone: "x", By: api.ReasonEntry, Index: 2}},
		"at":                 {{Phone: "a", By: api.ReasonEntry, Index: 0}, {Phone: "t", By: api.ReasonEntry, Index: 0}},
		"\u00e9":             nil,
		"\u00e9\u00e9":       nil,
		"\u00e9\u00e9aat":    {{Phone: "e", By: api.ReasonPart, Index: 5}, {Phone: "a", From: 3, By: api.ReasonPart}, {Phone: "t", From: 3, By: api.ReasonPart}},
		"catat":              {{Phone: "k", By: api.ReasonPart, Index: 1}, {Phone: "a", By: api.ReasonPart, Index: 1}, {Phone: "t", By: api.ReasonPart, Index: 1}, {Phone: "a", From: 3, By: api.ReasonPart}, {Phone: "t", From: 3, By: api.ReasonPart}},
		"ace":                {{Phone: "ei", By: api.ReasonRule}, {Phone: "s", From: 1, By: api.ReasonRule, Index: 1}},
		"catac":              {{Phone: "k", By: api.ReasonRule}, {Phone: "a", From: 1, By: api.ReasonRule, Index: 1}, {Phone: "t", From: 2, By: api.ReasonRule}, {Phone: "a", From: 3, By: api.ReasonRule, Index: 1}, {Phone: "s", From: 4, By: api.ReasonRule, Index: 1}},
		"x\u00e9y":           nil,
		"\u00e9\u00e9\u00e9": nil,
	} {
		sounds, e := letter.Pronounce(l, b, word)
		isOK(t, word, e)
		isSame(t, word, sounds, want)
	}
}

// TestLongPronunciations: parts can have more phones than a pronunciation.
func TestLongPronunciations(t *testing.T) {
	l := []api.Spelled{{Word: "a", Phones: manyPhones(60)}, {Word: "b", Phones: manyPhones(61)}, {Word: "ba", Phones: manyPhones(120)}, {Word: "c"}, {Word: "d", Phones: manyPhones(3)}}
	for word, length := range map[string]int{"aa": 120, "aac": 120, "ba": 120, "bac": 120, strings.Repeat("d", 40): 120, strings.Repeat("c", 40): 0} {
		sounds, e := letter.Pronounce(l, api.Book{}, word)
		if e != api.OK || len(sounds) != length {
			t.Errorf("%s: %d phones, %d", word, len(sounds), e)
		}
	}
	for _, word := range []string{"ab", "aaa", "aacd", strings.Repeat("d", 39) + "a", strings.Repeat("b", 40)} {
		withoutResults(t, pronounce(word, api.ErrLong, l, api.Book{}, word))
	}
}

func TestSayLikeModel(t *testing.T) {
	reasons := map[api.Reason]int{}
	forRandom(t, 1500, 8, 3, func(r *rand.Rand, p []api.Pair, l []api.Spelled) {
		b := randomBook(r)
		for range 5 {
			word := randomWord(r, 7)
			sounds, e := letter.Say(b, word)
			want, pieces := modelSay(b, word)
			isOK(t, word, e)
			isSame(t, "Say "+word, sounds, want)
			isSame(t, "pieces of "+word, phonesOf(sounds), slices.Concat(pieces...))
			parts, e := letter.Split(l, word)
			isSame(t, "Split "+word, parts, modelSplit(l, word))
			if (e == api.OK) != (len(parts) > 0) || e != api.OK && e != api.ErrNone {
				t.Errorf("Split %s: %v %d", word, parts, e)
			}
			sounds, e = letter.Pronounce(l, b, word)
			isOK(t, word, e)
			isSame(t, "Pronounce "+word, sounds, modelPronounce(l, b, word))
			if len(sounds) > 0 {
				reasons[sounds[0].By]++
			}
		}
		for _, entry := range l {
			sounds, e := letter.Pronounce(l, b, entry.Word)
			isOK(t, entry.Word, e)
			isSame(t, entry.Word, phonesOf(sounds), entry.Phones)
		}
	})
	if reasons[api.ReasonEntry] < 300 || reasons[api.ReasonPart] < 300 || reasons[api.ReasonRule] < 1000 {
		t.Errorf("only %v", reasons)
	}
}
