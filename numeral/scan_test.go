package numeral_test

import (
	"math/rand/v2"
	"slices"
	"strings"
	"testing"

	"declaim/api"
	"declaim/numeral"
)

func isList(t *testing.T, name string, got []int, e api.Errno, want ...int) {
	t.Helper()
	if e != api.OK || !slices.Equal(got, want) {
		t.Errorf("%s: %v %d, not %v", name, got, e, want)
	}
}

// alike is systemE with the word of 3 for 4 as well.
func alike() api.System {
	s := systemE()
	s.Sets[0][4].Pieces[0].Term = 3
	return s
}

func TestRead(t *testing.T) {
	s := systemE()
	all := api.Ask{Number: 999}
	for words, want := range map[string]int{"three ty": 30, "zero": 0, "one hundred and five": 105, "nine hundreds nine ty nine": 999} {
		got, e := numeral.Read(s, all, strings.Fields(words))
		isList(t, words, got, e, want)
	}
	for _, words := range [][]string{
		{"ty", "three"}, {"three ty"}, {"three", "ty", ""}, {"three", "ty", "three", "ty"}, {"three", "t", "y"}, {"hundred"}, {"zero", "one"}, {""}, {"\xff\x00"}, {}, nil,
	} {
		if got, e := numeral.Read(s, all, words); got != nil || e != api.ErrNone {
			t.Errorf("%q: %v %d", words, got, e)
		}
	}
	got, e := numeral.Read(s, api.Ask{Number: 30}, []string{"three", "ty"})
	isList(t, "the last number", got, e, 30)
	if got, e := numeral.Read(s, api.Ask{Number: 29}, []string{"three", "ty"}); got != nil || e != api.ErrNone {
		t.Errorf("behind the last number: %v %d", got, e)
	}
	got, e = numeral.Read(alike(), all, []string{"three", "ty", "three"})
	isList(t, "alike", got, e, 33, 34, 43, 44)
	s.Terms[3].Forms = nil
	if got, e := numeral.Read(s, all, nil); got != nil || e != api.ErrNone {
		t.Errorf("numbers without words: %v %d", got, e)
	}
}

func TestReadFeatures(t *testing.T) {
	s := systemE()
	s.Genders, s.Cases, s.Sets = 2, 2, append(s.Sets, []api.Numeral{rule(0, 0, piece(api.PieceTerm, 10, 0, 0))})
	s.Terms[2].Forms = []api.Form{{Gender: 0, Case: 1, Class: -1, Text: "deux"}, {Gender: 1, Case: -1, Class: -1, Text: "dos"}}
	got, e := numeral.Read(s, api.Ask{Number: 30, Case: 1}, []string{"deux"})
	isList(t, "a case", got, e, 2)
	got, e = numeral.Read(s, api.Ask{Number: 30, Gender: 1}, []string{"dos", "ty", "dos"})
	isList(t, "a gender", got, e, 22)
	got, e = numeral.Read(s, api.Ask{Number: 3, Set: 1}, []string{"teen"})
	isList(t, "a set", got, e, 0, 1, 2, 3)
	if got, e := numeral.Read(s, api.Ask{Number: 30}, []string{"dos"}); got != nil || e != api.ErrNone {
		t.Errorf("another gender: %v %d", got, e)
	}
	got, e = numeral.Missing(s, api.Ask{Number: 30})
	isList(t, "missing in a gender", got, e, 2, 12, 20, 21, 22, 23, 24, 25, 26, 27, 28, 29)
	got, e = numeral.Missing(s, api.Ask{Number: 30, Gender: 1})
	isList(t, "missing in another gender", got, e)
}

func TestTwins(t *testing.T) {
	for _, c := range []struct {
		name string
		s    api.System
		last int
		want []api.Twin
	}{
		{"none", systemE(), 999, nil},
		{"alike", alike(), 14, []api.Twin{{First: 3, Second: 4}, {First: 13, Second: 14}}},
		{"the last number", alike(), 4, []api.Twin{{First: 3, Second: 4}}},
		{"before it", alike(), 3, nil},
		{"the least number is first", classless(), 3, []api.Twin{{First: 0, Second: 1}, {First: 0, Second: 2}, {First: 0, Second: 3}}},
	} {
		if got, e := numeral.Twins(c.s, api.Ask{Number: c.last}); e != api.OK || !slices.Equal(got, c.want) {
			t.Errorf("%s: %v %d", c.name, got, e)
		}
	}
	s := alike()
	s.Terms[3].Forms = nil
	if got, e := numeral.Twins(s, api.Ask{Number: 99}); e != api.OK || got != nil {
		t.Errorf("numbers without words are no twins: %v %d", got, e)
	}
	// The same letters, but other words.
	s = systemE()
	s.Terms[1], s.Terms[2] = always("a"), always("aty")
	if got, e := numeral.Twins(s, api.Ask{Number: 10}); e != api.OK || got != nil {
		t.Errorf("words that join to the same letters: %v %d", got, e)
	}
}

// classless says one and the same word for all numbers.
func classless() api.System {
	return api.System{Top: api.MaxTop, Genders: 1, Cases: 1, Classes: 1, Terms: []api.Term{always("n")}, Sets: [][]api.Numeral{{rule(0, 0, piece(api.PieceTerm, 0, 0, 0))}}}
}

func TestMissing(t *testing.T) {
	s := systemE()
	got, e := numeral.Missing(s, api.Ask{Number: 999})
	isList(t, "none", got, e)
	s.Terms[13].Forms = nil
	got, e = numeral.Missing(s, api.Ask{Number: 202})
	isList(t, "and", got, e, 101, 102, 103, 104, 105, 106, 107, 108, 109, 201, 202)
	s = classless()
	s.Terms[0].Forms = nil
	got, e = numeral.Missing(s, api.Ask{Number: 2})
	isList(t, "all", got, e, 0, 1, 2)
}

func TestDiffer(t *testing.T) {
	s, all := systemE(), api.Ask{Number: 999}
	got, e := numeral.Differ(s, s, all)
	isList(t, "equal", got, e)
	got, e = numeral.Differ(s, alike(), api.Ask{Number: 41})
	isList(t, "one word", got, e, 4, 14, 24, 34, 40, 41)
	missing := systemE()
	missing.Terms[4].Forms = nil
	for _, two := range [][2]api.System{{s, missing}, {missing, s}} {
		got, e = numeral.Differ(two[0], two[1], api.Ask{Number: 24})
		isList(t, "words in one alone", got, e, 4, 14, 24)
	}
	got, e = numeral.Differ(missing, missing, all)
	isList(t, "words in none", got, e)
	// Other rules and other terms for the same words.
	same := systemE()
	same.Terms = append(same.Terms, always("four"))
	same.Sets[0][4].Pieces[0].Term = 14
	same.Top = 2000
	got, e = numeral.Differ(s, same, all)
	isList(t, "the same words", got, e)
	joined := systemE()
	joined.Terms[3], joined.Terms[11] = always("thr"), always("eety")
	got, e = numeral.Differ(s, joined, api.Ask{Number: 11})
	isList(t, "other words of the same letters", got, e, 3, 10, 11)
}

func TestUses(t *testing.T) {
	s := systemE()
	for _, c := range []struct {
		last, rule int
		want       []int
	}{
		{45, 3, []int{3, 13, 23, 30, 31, 32, 33, 34, 35, 36, 37, 38, 39, 43}},
		{12, 10, []int{10, 11, 12}},
		{101, 11, []int{100, 101}},
		{99, 11, nil},
		{999, 0, []int{0}}, // no rule is used for a rest of 0
		{3, 3, []int{3}},
	} {
		got, e := numeral.Uses(s, api.Ask{Number: c.last}, 0, c.rule)
		isList(t, "rule", got, e, c.want...)
	}
	for _, c := range [][2]int{{-1, 0}, {1, 0}, {0, -1}, {0, 12}, {1 << 62, 0}, {0, -1 << 63}} {
		if got, e := numeral.Uses(s, api.Ask{Number: 9}, c[0], c[1]); got != nil || e != api.ErrArg {
			t.Errorf("no such rule %v: %v %d", c, got, e)
		}
		s.Top = 30000
		if got, e := numeral.Uses(s, api.Ask{Number: 30000}, c[0], c[1]); got != nil || e != api.ErrArg {
			t.Errorf("ErrArg comes before ErrLong %v: %v %d", c, got, e)
		}
	}
}

// TestUsesOfSets: only what pieces name is used, with terms that have forms or not.
func TestUsesOfSets(t *testing.T) {
	s := systemE()
	s.Sets = append(s.Sets, []api.Numeral{rule(0, 0, piece(api.PieceTerm, 0, 0, 0)), rule(5, 0, piece(api.PieceTerm, 1, 0, 0))})
	s.Sets[0][10].Pieces = []api.Piece{piece(api.PieceTerm, 11, 0, 0), piece(api.PieceRest, 0, 1, 0)}
	for i := range s.Terms {
		s.Terms[i].Forms = nil
	}
	for _, c := range []struct {
		a         api.Ask
		set, rule int
		want      []int
	}{
		{api.Ask{Number: 25}, 0, 2, []int{2}}, // the quotient is not named
		{api.Ask{Number: 25}, 1, 0, []int{11, 12, 13, 14, 21, 22, 23, 24}},
		{api.Ask{Number: 25}, 1, 1, []int{15, 16, 17, 18, 19, 25}},
		{api.Ask{Number: 7, Set: 1}, 1, 1, []int{5, 6, 7}},
		{api.Ask{Number: 7, Set: 1}, 0, 6, nil},
	} {
		got, e := numeral.Uses(s, c.a, c.set, c.rule)
		isList(t, "set", got, e, c.want...)
	}
	s.Sets[0][10].Pieces = []api.Piece{piece(api.PieceQuotient, 0, 1, 0), piece(api.PieceTerm, 11, 0, 0), piece(api.PieceLink, 11, 0, 0)}
	got, e := numeral.Uses(s, api.Ask{Number: 52}, 1, 1)
	isList(t, "quotient", got, e, 50, 51, 52)
	got, e = numeral.Uses(s, api.Ask{Number: 52}, 0, 1)
	isList(t, "rest that is not named", got, e, 1)
}

func TestLongest(t *testing.T) {
	s := systemE()
	for last, want := range map[int][2]int{0: {0, 1}, 9: {0, 1}, 10: {10, 2}, 11: {11, 3}, 100: {11, 3}, 101: {101, 4}, 110: {101, 4}, 111: {111, 5}, 999: {111, 5}} {
		if n, many, e := numeral.Longest(s, api.Ask{Number: last}); n != want[0] || many != want[1] || e != api.OK {
			t.Errorf("%d: %d %d %d", last, n, many, e)
		}
	}
	s.Terms[1].Forms = nil
	if n, many, e := numeral.Longest(s, api.Ask{Number: 999}); n != 222 || many != 5 || e != api.OK {
		t.Errorf("numbers without words: %d %d %d", n, many, e)
	}
	for i := range s.Terms {
		s.Terms[i].Forms = nil
	}
	if n, many, e := numeral.Longest(s, api.Ask{Number: 999}); n != 0 || many != 0 || e != api.ErrNone {
		t.Errorf("no words: %d %d %d", n, many, e)
	}
}

// TestScanBound: the last number that is gone through.
func TestScanBound(t *testing.T) {
	s, a := classless(), api.Ask{Number: api.MaxScan}
	if got, e := numeral.Read(s, a, []string{"n"}); e != api.OK || len(got) != api.MaxScan+1 || got[api.MaxScan] != api.MaxScan {
		t.Errorf("Read: %d numbers, %d", len(got), e)
	}
	if got, e := numeral.Twins(s, a); e != api.OK || len(got) != api.MaxScan || got[api.MaxScan-1] != (api.Twin{Second: api.MaxScan}) {
		t.Errorf("Twins: %d numbers, %d", len(got), e)
	}
	if got, e := numeral.Uses(s, a, 0, 0); e != api.OK || len(got) != api.MaxScan+1 {
		t.Errorf("Uses: %d numbers, %d", len(got), e)
	}
	if n, many, e := numeral.Longest(s, a); n != 0 || many != 1 || e != api.OK {
		t.Errorf("Longest: %d %d %d", n, many, e)
	}
	other := classless()
	other.Terms[0] = always("m")
	if got, e := numeral.Differ(s, other, a); e != api.OK || len(got) != api.MaxScan+1 {
		t.Errorf("Differ: %d numbers, %d", len(got), e)
	}
	other.Terms[0].Forms = nil
	if got, e := numeral.Missing(other, a); e != api.OK || len(got) != api.MaxScan+1 {
		t.Errorf("Missing: %d numbers, %d", len(got), e)
	}
}

// TestScansLikeModel compares all that goes through numbers with what the model says of each of them.
func TestScansLikeModel(t *testing.T) {
	forRandomSystems(t, func(r *rand.Rand, s api.System, a api.Ask) {
		var missing, ruled []int
		var twins []api.Twin
		sameWords := map[string][]int{}
		longest, most := 0, 0
		set := r.IntN(len(s.Sets))
		rule := r.IntN(len(s.Sets[set]))
		for n := 0; n <= a.Number; n++ {
			m := modelOf(s, api.Ask{Number: n, Set: a.Set, Gender: a.Gender, Case: a.Case})
			if m.used[[2]int{set, rule}] {
				ruled = append(ruled, n)
			}
			if m.missing {
				missing = append(missing, n)
				continue
			}
			key := strings.Join(m.words(), " ")
			if old := sameWords[key]; old != nil {
				twins = append(twins, api.Twin{First: old[0], Second: n})
			}
			sameWords[key] = append(sameWords[key], n)
			if len(m.said) > most {
				longest, most = n, len(m.said)
			}
		}
		got, e := numeral.Missing(s, a)
		isList(t, "Missing", got, e, missing...)
		got, e = numeral.Uses(s, a, set, rule)
		isList(t, "Uses", got, e, ruled...)
		if got, e := numeral.Twins(s, a); e != api.OK || !slices.Equal(got, twins) {
			t.Errorf("Twins: %v %d, not %v", got, e, twins)
		}
		n, many, e := numeral.Longest(s, a)
		if n != longest || many != most || (e == api.OK) != (most > 0) {
			t.Errorf("Longest: %d %d %d, not %d %d", n, many, e, longest, most)
		}
		for key, want := range sameWords {
			got, e := numeral.Read(s, a, strings.Fields(key))
			isList(t, "Read "+key, got, e, want...)
		}
	})
}
