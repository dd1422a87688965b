package text_test

import (
	"strings"
	"testing"

	"declaim/api"
	"declaim/text"
)

// saying is grammarA with a single convention: any characters, then # and digits.
func saying(all ...api.Say) api.Grammar {
	g := grammarA()
	g.Sorts = append(g.Sorts, []api.Span{{From: 0, To: 0x10FFFF}})
	g.Conventions = []api.Convention{{Pattern: pattern(some(2, 1, 100), exactly("#"), some(0, 1, 100)), Says: all}}
	return g
}

func says1(t *testing.T, say api.Say, written, want string, sayable bool) {
	t.Helper()
	words, e := text.Words(saying(say), written)
	if got := strings.Join(words, "|"); got != want || (e == api.OK) != sayable || e != api.OK && e != api.ErrNone {
		t.Errorf("%+v of %q: %q %d, not %q", say, written, got, e, want)
	}
}

func TestSayNumber(t *testing.T) {
	number := api.Say{Kind: api.SayNumber, Group: 1}
	says1(t, number, "a#7", "seven", true)
	says1(t, number, "a#0", "zero", true)
	says1(t, number, "a#007", "seven", true)
	says1(t, number, "a#000000000007", "seven", true)
	says1(t, number, "a#0000000000007", "", false) // 13 digits
	says1(t, number, "a#120", "unus|hundred|duo|ty", true)
	says1(t, number, "a#121", "", false) // above Top
	says1(t, number, "a#999999999999", "", false)
	says1(t, number, "a#99999999999999999999999", "", false)
	number.Gender = 1
	says1(t, number, "a#1", "una", true)
	number.Case = 1
	says1(t, number, "a#1", "una", true)
	number.Gender = 0
	says1(t, number, "a#1", "unum", true)
	number.Gender = 2
	says1(t, number, "a#2", "", false) // without a form
	number = api.Say{Kind: api.SayNumber, Group: 0}
	says1(t, number, "12#1", "unus|ty|duo", true)
	for _, group := range []string{"x", "1x", "-1", "+1", " 1", "1.0", "1_0", "\u0661", "0x1"} {
		says1(t, number, group+"#1", "", false)
	}
}

func TestSayNumberSet(t *testing.T) {
	g := saying(api.Say{Kind: api.SayNumber, Group: 1, Set: 1}, api.Say{Kind: api.SayDigits, Group: 1, Set: 1})
	g.System.Sets = append(g.System.Sets, []api.Numeral{{Pieces: []api.Piece{{Kind: api.PieceTerm, Term: 13}}}})
	isWords(t, g, "a#77", "and and and")
}

// TestAnyGender: a number takes the gender of the first noun that later says say.
func TestAnyGender(t *testing.T) {
	g := grammarA()
	isWords(t, g, "1m", "una metre")
	isWords(t, g, "2m", "duae metres")
	isWords(t, g, "1 m", "unus")             // a row without words
	isWords(t, g, "1 \u00e9", "una lengths") // a row
	isWords(t, g, "1 cm", "unus small lengths")
	isWords(t, g, "1x", "lengths unus") // a noun before the number
	isWords(t, g, "1y", "una other lengths small")
	isWords(t, g, "1zlengths", "unus lengths") // an echo is no noun
	number := api.Say{Kind: api.SayNumber, Group: 1, Gender: -1}
	isWords(t, saying(number, number, sayWords("lengths")), "a#1", "una una lengths")
	isWords(t, saying(number, sayWords("none of them"), number, sayWords("small"), sayWords("lengths")), "a#1", "unus none of them unus small lengths")
	// Genders that are named stay as they are.
	isWords(t, saying(api.Say{Kind: api.SayNumber, Group: 1}, sayWords("lengths")), "a#1", "unus lengths")
	g.Nouns = nil
	isWords(t, g, "1m", "unus metre")
}

func TestSayDigits(t *testing.T) {
	all := api.Say{Kind: api.SayDigits, Group: 1}
	says1(t, all, "a#0", "zero", true)
	says1(t, all, "a#102", "unus|zero|duo", true)
	says1(t, all, "a#"+strings.Repeat("7", 100), strings.Repeat("seven|", 99)+"seven", true)
	all.Gender, all.Case = 1, 1
	says1(t, all, "a#12", "una|duae", true)
	all.Gender = 2
	says1(t, all, "a#121", "", false) // 2 without a form
	says1(t, all, "a#1", "unum", true)
	all = api.Say{Kind: api.SayDigits}
	for _, group := range []string{"x", "12a", " 1", "-1", "\u0661"} {
		says1(t, all, group+"#1", "", false)
	}
	g := saying(all)
	g.System.Top, g.System.Sets = 5, [][]api.Numeral{g.System.Sets[0][:6]}
	isWords(t, g, "55#1", "five five")
	unreadable(t, g, "56#1")
}

func TestSayEcho(t *testing.T) {
	echo := api.Say{Kind: api.SayEcho}
	says1(t, echo, "abc#1", "abc", true)
	says1(t, echo, "!~\x7f\u00e9#1", "!~\x7f\u00e9", true)
	says1(t, echo, strings.Repeat("x", 40)+"#1", strings.Repeat("x", 40), true)
	says1(t, echo, strings.Repeat("x", 41)+"#1", "", false)
	says1(t, echo, strings.Repeat("\u00e9", 20)+"#1", strings.Repeat("\u00e9", 20), true)
	says1(t, echo, strings.Repeat("\u00e9", 21)+"#1", "", false) // bytes count
	for _, group := range []string{" ", "a b", "a\t", "\x00", "\x1f"} {
		says1(t, echo, group+"#1", "", false)
	}
}

func TestSayRow(t *testing.T) {
	row := api.Say{Kind: api.SayRow}
	says1(t, row, "cm#1", "small|lengths", true)
	says1(t, row, "m#1", "", true) // no words, but a row
	says1(t, row, "\u00e9#1", "lengths", true)
	for _, group := range []string{"c", "cmm", "CM", "n", "zz", "a"} {
		says1(t, row, group+"#1", "", false)
	}
	g := saying(api.Say{Kind: api.SayRow, Table: 1}, api.Say{Kind: api.SayRow, Table: 0})
	g.Tables = append(g.Tables, []api.Row{{Text: "\xff"}, {Text: "\xff\xfe"}})
	unreadable(t, g, "cm#1")
	g.Tables[1] = []api.Row{{Text: "cm", Words: []string{"one"}}}
	isWords(t, g, "cm#1", "one small lengths")
	g.Tables[1] = nil
	unreadable(t, g, "cm#1")
}

func TestSayCounted(t *testing.T) {
	counted := api.Say{Kind: api.SayCounted, Group: 1, Term: metre}
	says1(t, counted, "a#1", "metre", true)
	says1(t, counted, "a#2", "metres", true)
	says1(t, counted, "a#000000000001", "metre", true)
	says1(t, counted, "a#0000000000001", "", false)
	says1(t, counted, "a#120", "metres", true)
	says1(t, counted, "a#121", "", false)
	counted.Case = 1
	says1(t, counted, "a#1", "", false) // without a form
	says1(t, counted, "a#2", "metres", true)
	counted = api.Say{Kind: api.SayCounted, Term: 2} // of gender 0
	says1(t, counted, "2#1", "duo", true)
	says1(t, counted, "x#1", "", false)
	// A number whose own words are missing can be counted.
	g := saying(api.Say{Kind: api.SayCounted, Group: 1, Term: metre})
	g.System.Terms[7].Forms = nil
	isWords(t, g, "a#7", "metres")
}

// TestAllSays: all of them are said, or nothing fits.
func TestAllSays(t *testing.T) {
	g := saying(sayWords("the"), api.Say{Kind: api.SayEcho}, sayWords(""), api.Say{Kind: api.SayDigits, Group: 1}, api.Say{Kind: api.SayNumber, Group: 1})
	isWords(t, g, "ab#12", "the ab unus duo unus ty duo")
	unreadable(t, g, "ab#121")
	unreadable(t, g, "a b#12")
	g.Conventions[0].Says = nil
	isWords(t, g, "a b#121", "")
}
