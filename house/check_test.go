package house_test

import (
	"slices"
	"strings"
	"testing"

	"declaim/api"
	"declaim/house"
)

// judgeStamp judges all calls with a mark, of which the message 0 or 1 is right if the mark is.
func judgeStamp(t *testing.T, name string, valid bool, m api.Stamp) {
	t.Helper()
	judge(t, name+": Word", orArg(valid), results(house.Word(m, 1)))
	judge(t, name+": Sign", orArg(valid), results(house.Sign([]int{1, 2}, m, 0)))
	judge(t, name+": Find", orArg(valid), results(house.Find([]int{1, 2}, m, 1)))
	judge(t, name+": Survives", orArg(valid), results(house.Survives(m, 1, 1, 1, 0)))
}

func TestCheckStamps(t *testing.T) {
	for n, valid := range bounds(0, 1<<62-1) {
		judgeStamp(t, "key", valid, api.Stamp{Key: n, Period: 4, Bits: 1, Margin: 1})
	}
	for n, valid := range bounds(4, 256) {
		judgeStamp(t, "period", valid, api.Stamp{Period: n, Bits: 1, Margin: 1})
	}
	for n, valid := range bounds(1, 16) {
		judgeStamp(t, "bits", valid, api.Stamp{Period: 4, Bits: n, Margin: 1})
	}
	for n, valid := range bounds(1, 1000000000) {
		judgeStamp(t, "margin", valid, api.Stamp{Period: 4, Bits: 1, Margin: n})
	}
	judgeStamp(t, "no mark", false, api.Stamp{})
	judgeStamp(t, "the greatest mark", true, api.Stamp{Key: api.MaxKey, Period: 256, Bits: 16, Margin: 1000000000})
}

func TestCheckMessages(t *testing.T) {
	for bits, most := range map[int]int{1: 1, 2: 3, 7: 127, 16: 65535} {
		m := api.Stamp{Period: 4, Bits: bits, Margin: 1}
		for message, valid := range bounds(0, most) {
			judge(t, "Word", orArg(valid), results(house.Word(m, message)))
			judge(t, "Sign", orArg(valid), results(house.Sign(flat(5, 1), m, message)))
			judge(t, "Sign", orArg(valid), results(house.Sign(flat(200, 1), m, message)))
		}
	}
}

func TestCheckChips(t *testing.T) {
	for start, valid := range bounds(0, 1<<62+1<<17) {
		judge(t, "start", orArg(valid), results(house.Chips(start, 3)))
		judge(t, "start of nothing", orArg(valid), results(house.Chips(start, 0)))
	}
	for n, valid := range bounds(0, 10000) {
		judge(t, "n", orArg(valid), results(house.Chips(3, n)))
	}
}

// judgeWave judges all calls with a wave, of which right is the other one.
func judgeWave(t *testing.T, name string, want api.Errno, a []int) {
	t.Helper()
	judge(t, name+": Sign", want, results(house.Sign(a, stampOnes(), 1)))
	judge(t, name+": Find", want, results(house.Find(a, stampOnes(), 99999)))
	judge(t, name+": Changes", want, results(house.Changes(a, []int{1}, 1)))
	judge(t, name+": Changes", want, results(house.Changes([]int{1}, a, 1)))
}

func TestCheckWaves(t *testing.T) {
	for sample, valid := range bounds(lowest, highest) {
		judgeWave(t, "the first sample", orArg(valid), []int{sample, 0, 0})
		judgeWave(t, "the last sample", orArg(valid), []int{0, 0, sample})
	}
	for n, valid := range map[int]bool{0: true, 1: true, api.MaxWave: true, api.MaxWave + 1: false} {
		judgeWave(t, "samples", orError(valid, api.ErrLong), flat(n, 9))
	}
}

// TestCheckLongFirst: too many samples come before all that is wrong.
func TestCheckLongFirst(t *testing.T) {
	long := flat(api.MaxWave+1, highest+1)
	isError(t, "Sign", results(house.Sign(long, api.Stamp{}, -1)), api.ErrLong)
	isError(t, "Find", results(house.Find(long, api.Stamp{}, 0)), api.ErrLong)
	isError(t, "Changes", results(house.Changes([]int{highest + 1}, long, 0)), api.ErrLong)
	isError(t, "Changes", results(house.Changes(long, []int{highest + 1}, 0)), api.ErrLong)
	isError(t, "Changes", results(house.Changes(long, long, 1)), api.ErrLong)
	isError(t, "Count", results(house.Count(flat(41, greatest), greatest)), api.ErrLong)
	isError(t, "Flips", results(house.Flips(flat(41, greatest))), api.ErrLong)
	isError(t, "Holm", results(house.Holm(make([]api.Chance, 51), 0, 0)), api.ErrLong)
}

// TestCheckArgFirst: what is wrong comes before a mark that is too loud and too many finds.
func TestCheckArgFirst(t *testing.T) {
	m := stampOnes()
	m.Margin = 1000000000
	isError(t, "too loud", results(house.Sign(flat(72, 0), m, 1)), api.ErrNone)
	isError(t, "too loud, and a wrong message", results(house.Sign(flat(72, 0), m, 2)), api.ErrArg)
	isError(t, "too loud, and a wrong sample", results(house.Sign(append(flat(72, 0), highest+1), m, 1)), api.ErrArg)
	many := flat(20000, 5)
	isError(t, "too many", results(house.Find(many, m, 1)), api.ErrLong)
	isError(t, "too many, and a wrong threshold", results(house.Find(many, m, 0)), api.ErrArg)
	isError(t, "too many, and a wrong sample", results(house.Find(append(many, highest+1), m, 1)), api.ErrArg)
}

func TestCheckFind(t *testing.T) {
	for threshold, valid := range bounds(1, 1000000000) {
		judge(t, "threshold", orArg(valid), results(house.Find(flat(100, 0), stampOnes(), threshold)))
		judge(t, "threshold", orArg(valid), results(house.Find(nil, stampOnes(), threshold)))
	}
}

func TestCheckSurvives(t *testing.T) {
	m := stampOnes()
	for threshold, valid := range bounds(1, 1000000000) {
		judge(t, "threshold", orArg(valid), results(house.Survives(m, threshold, 1, 1, 0)))
	}
	for n, valid := range bounds(1, 1000000) {
		judge(t, "num", orArg(valid), results(house.Survives(m, 1, n, 1, 0)))
		judge(t, "den", orArg(valid), results(house.Survives(m, 1, 1, n, 0)))
	}
	for noise, valid := range bounds(0, 32768) {
		judge(t, "noise", orArg(valid), results(house.Survives(m, 1, 1, 1, noise)))
	}
}

func TestCheckCounts(t *testing.T) {
	for n, valid := range bounds(-1000000000, 1000000000) {
		for _, x := range [][]int{{n}, {1, n}, {n, 2, 3}} {
			judge(t, "Count", orArg(valid), results(house.Count(x, 1)))
			judge(t, "Flips", orArg(valid), results(house.Flips(x)))
		}
	}
	for threshold, valid := range bounds(-100000000000, 100000000000) {
		judge(t, "threshold", orArg(valid), results(house.Count([]int{1}, threshold)))
		judge(t, "threshold of nothing", orArg(valid), results(house.Count(nil, threshold)))
	}
	for n, valid := range map[int]bool{0: true, 40: true, 41: false, 100000: false} {
		judge(t, "Count", orError(valid, api.ErrLong), results(house.Count(flat(n, 1), 1)))
		judge(t, "Flips", orError(valid, api.ErrLong), results(house.Flips(flat(n, 1))))
	}
}

func TestCheckSigns(t *testing.T) {
	for n, valid := range bounds(0, 40) {
		judge(t, "n", orArg(valid), results(house.Signs(0, n)))
		judge(t, "all wins", orArg(valid), results(house.Signs(n, n)))
	}
	for _, n := range []int{0, 1, 7, 40} {
		for wins, valid := range bounds(0, n) {
			judge(t, "wins", orArg(valid), results(house.Signs(wins, n)))
		}
	}
}

func TestCheckHolm(t *testing.T) {
	one := chance(1, 2)
	judgeOf := func(name string, valid bool, c api.Chance) {
		t.Helper()
		judge(t, name+" first", orArg(valid), results(house.Holm([]api.Chance{c, one}, 1, 20)))
		judge(t, name+" last", orArg(valid), results(house.Holm([]api.Chance{one, one, c}, 1, 20)))
	}
	for all, valid := range bounds(1, 1<<40) {
		judgeOf("all", valid, chance(0, all))
		judgeOf("all of all", valid, chance(all, all))
	}
	for of, valid := range bounds(0, 77) {
		judgeOf("of", valid, chance(of, 77))
	}
	for n, valid := range map[int]bool{0: true, 50: true, 51: false, 9999: false} {
		judge(t, "results", orError(valid, api.ErrLong), results(house.Holm(slices.Repeat([]api.Chance{one}, n), 1, 20)))
	}
	for den, valid := range bounds(2, 1000) {
		judge(t, "den", orArg(valid), results(house.Holm([]api.Chance{one}, 1, den)))
	}
	for num, valid := range bounds(1, 19) {
		judge(t, "num", orArg(valid), results(house.Holm([]api.Chance{one}, num, 20)))
		judge(t, "num of nothing", orArg(valid), results(house.Holm(nil, num, 20)))
	}
	judge(t, "no level", api.ErrArg, results(house.Holm(nil, 0, 0)))
}

func TestCheckSquare(t *testing.T) {
	for n, valid := range bounds(1, 60) {
		judge(t, "n", orArg(valid), results(house.Square(n)))
	}
	judge(t, "0", api.ErrArg, results(house.Square(0)))
}

func TestCheckDistance(t *testing.T) {
	for distance, valid := range bounds(1, api.MaxWave) {
		judge(t, "distance", orArg(valid), results(house.Changes([]int{1}, []int{2}, distance)))
		judge(t, "distance of nothing", orArg(valid), results(house.Changes(nil, nil, distance)))
	}
}

// The texts of the bounds, and whether they are too long.
func longTexts() map[string]bool {
	return map[string]bool{strings.Repeat("7", api.MaxText): false, strings.Repeat("7", api.MaxText+1): true, strings.Repeat("7", api.MaxText) + "\xff": true}
}

func TestCheckReading(t *testing.T) {
	right, wrong := grammarE(), wrongGrammar()
	for written, long := range longTexts() {
		judge(t, "Blame", orError(!long, api.ErrLong), results(house.Blame([]api.Grammar{right}, written)))
		judge(t, "Suspects", orError(!long, api.ErrLong), results(house.Suspects(right, right, written)))
		if long {
			isError(t, "Blame", results(house.Blame([]api.Grammar{wrong}, written)), api.ErrLong)
			isError(t, "Blame", results(house.Blame(nil, written)), api.ErrLong)
			isError(t, "Suspects", results(house.Suspects(wrong, wrong, written)), api.ErrLong)
		}
	}
	for _, written := range []string{"7 kg", "", "\xff", "\u20ac"[:2]} {
		for _, versions := range [][]api.Grammar{{wrong}, {right, wrong}, {wrong, right}, {right, right, wrong}} {
			isError(t, "Blame", results(house.Blame(versions, written)), api.ErrArg)
		}
		isError(t, "Suspects", results(house.Suspects(wrong, right, written)), api.ErrArg)
		isError(t, "Suspects", results(house.Suspects(right, wrong, written)), api.ErrArg)
		isError(t, "Suspects", results(house.Suspects(api.Grammar{}, right, written)), api.ErrArg)
	}
	for _, written := range []string{"\xff", "7\xc3", "\u20ac"[1:]} {
		isError(t, "Blame", results(house.Blame([]api.Grammar{right, right}, written)), api.ErrText)
		isError(t, "Blame", results(house.Blame(nil, written)), api.ErrText)
		isError(t, "Suspects", results(house.Suspects(right, right, written)), api.ErrText)
	}
}

func TestCheckVersions(t *testing.T) {
	versions := slices.Repeat([]api.Grammar{grammarE(), withCost(3, 9)}, 11)
	blamed, e := house.Blame(versions[:20], "kg")
	isOK(t, "as many as may be", results(len(blamed), blamed[18], e), 19, 19)
	isError(t, "one more", results(house.Blame(versions[:21], "kg")), api.ErrLong)
	isError(t, "many, and not valid", results(house.Blame(make([]api.Grammar, 21), "\xff")), api.ErrLong)
}

func TestCheckPatchPieces(t *testing.T) {
	one := func(from, to int) []any {
		return results(house.Patch(with(literal("?", 0)), "kg?kg", from, to, []string{"x"}, nil))
	}
	for _, c := range []struct {
		from, to int
		want     api.Errno
	}{
		{0, 5, api.OK}, {0, 2, api.OK}, {3, 5, api.OK}, {0, 1, api.ErrNone}, {-1, 2, api.ErrArg}, {0, 0, api.ErrArg}, {5, 5, api.ErrArg},
		{2, 1, api.ErrArg}, {0, 6, api.ErrArg}, {5, 6, api.ErrArg}, {6, 7, api.ErrArg}, {least, greatest, api.ErrArg}, {0, greatest, api.ErrArg},
		{greatest, least, api.ErrArg}, {least, 2, api.ErrArg}, {greatest, greatest, api.ErrArg}, {least, least, api.ErrArg},
	} {
		judge(t, "a piece", c.want, one(c.from, c.to))
	}
	for _, c := range []struct {
		from, to int
		want     api.Errno
	}{
		{0, 2, api.OK}, {2, 5, api.OK}, {5, 9, api.OK}, {0, 9, api.OK}, {0, 1, api.ErrArg}, {1, 2, api.ErrArg}, {2, 3, api.ErrArg}, {2, 4, api.ErrArg},
		{3, 5, api.ErrArg}, {4, 9, api.ErrArg}, {5, 6, api.ErrArg}, {5, 7, api.ErrArg}, {5, 8, api.ErrArg}, {8, 9, api.ErrArg}, {6, 7, api.ErrArg},
	} {
		g := with(literal("\u00e9", 1), literal("\u20ac", 1), literal("\U0001F600", 1))
		judge(t, "a place", c.want, results(house.Patch(g, "\u00e9\u20ac\U0001F600", c.from, c.to, nil, nil)))
	}
	isError(t, "the empty text", results(house.Patch(grammarE(), "", 0, 0, nil, nil)), api.ErrArg)
	isError(t, "behind the empty text", results(house.Patch(grammarE(), "", 0, 1, nil, nil)), api.ErrArg)
}

func TestCheckPatchWords(t *testing.T) {
	many := func(n int) []string { return slices.Repeat([]string{"x"}, n) }
	for _, c := range []struct {
		words []string
		valid bool
	}{
		{nil, true}, {many(1), true}, {many(20), true}, {many(21), false}, {many(9999), false},
		{[]string{""}, false}, {[]string{"x", ""}, false}, {[]string{"", "x"}, false},
		{[]string{strings.Repeat("x", 40)}, true}, {[]string{strings.Repeat("x", 41)}, false},
		{[]string{"!"}, true}, {[]string{" "}, false}, {[]string{"a b"}, false}, {[]string{"x", "\x1f"}, false}, {[]string{"\x00"}, false},
		{[]string{"\xff\x80"}, true}, {[]string{"\x7f"}, true}, {[]string{"\u20ac"}, true},
	} {
		judge(t, "words", orArg(c.valid), results(house.Patch(grammarE(), "kg", 0, 2, c.words, nil)))
		isError(t, "words for a text that is not valid", results(house.Patch(grammarE(), "kg\xff", 0, 2, c.words, nil)), map[bool]api.Errno{true: api.ErrText, false: api.ErrArg}[c.valid])
	}
}

// TestCheckPatchOrder: each error with all that come later.
func TestCheckPatchOrder(t *testing.T) {
	long := strings.Repeat("7", api.MaxText+1)
	many := slices.Repeat([]string{"7"}, api.MaxCorpus+1)
	valid, wrong := full(api.MaxConventions), wrongGrammar()
	split, bad := "\u20ac7", "\u20ac\xff"
	for _, c := range []struct {
		name     string
		g        api.Grammar
		written  string
		from, to int
		words    []string
		corpus   []string
		want     api.Errno
	}{
		{"a long text", wrong, long + "\xff", 9, 0, []string{""}, []string{bad}, api.ErrLong},
		{"one byte too many", wrong, long, 9, 0, []string{""}, []string{bad}, api.ErrLong},
		{"a long corpus", wrong, bad, 9, 0, []string{""}, many, api.ErrLong},
		{"a long text of the corpus", wrong, bad, 9, 0, []string{""}, []string{bad, long}, api.ErrLong},
		{"a wrong grammar", wrong, bad, 1, 2, nil, []string{bad}, api.ErrArg},
		{"no piece", valid, bad, 2, 1, nil, []string{bad}, api.ErrArg},
		{"wrong words", valid, bad, 1, 2, []string{""}, []string{bad}, api.ErrArg},
		{"a wrong text", valid, bad, 1, 2, nil, nil, api.ErrText},
		{"a wrong text of the corpus", valid, split, 1, 2, nil, []string{"", bad}, api.ErrText},
		{"no place", valid, split, 0, 2, nil, nil, api.ErrArg},
		{"too many conventions", valid, split, 0, 3, nil, nil, api.ErrLong},
		{"as many conventions as may be", full(api.MaxConventions - 1), split, 0, 3, nil, nil, api.OK},
		{"no patch", full(api.MaxConventions - 1), "7 kg", 1, 2, nil, nil, api.ErrNone},
		{"the longest corpus", grammarE(), "kg", 0, 2, nil, many[1:], api.OK},
		{"the longest text of the corpus", grammarE(), "kg", 0, 2, nil, []string{long[1:]}, api.OK},
		{"the longest text", grammarE(), long[1:], 0, 2, nil, nil, api.OK},
	} {
		judge(t, c.name, c.want, results(house.Patch(c.g, c.written, c.from, c.to, c.words, c.corpus)))
	}
}
