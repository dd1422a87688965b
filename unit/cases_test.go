package unit_test

import (
	"slices"
	"testing"

	"declaim/api"
	"declaim/unit"
)

// Cases that the chapter names.

func TestTargetCosts(t *testing.T) {
	u := api.Unit{Phone: "a", Before: "b", After: "c", Pitch: 100, Length: 10, To: 1, Begin: []int{0}, End: []int{0}}
	w := api.Weights{Beside: 1000, Pitch: 100, Length: 1, Join: 7}
	for _, c := range []struct {
		name          string
		before, after string
		own, pitch    int
		length, want  int
	}{
		{"alike", "b", "c", 100, 100, 10, 0},
		{"another phone before", "c", "c", 100, 100, 10, 1000},
		{"another phone behind", "b", "b", 100, 100, 10, 1000},
		{"other phones", "c", "b", 100, 100, 10, 2000},
		{"nothing beside", "", "", 100, 100, 10, 2000},
		{"lower", "b", "c", 100, 98, 10, 200},
		{"higher", "b", "c", 100, 103, 10, 300},
		{"no voice at all", "b", "c", 0, 0, 10, 0},
		{"a unit without voice", "b", "c", 0, 1, 10, 200000},
		{"a target without voice", "b", "c", 2000, 0, 10, 200000},
		{"from 1 to 2000", "b", "c", 1, 2000, 10, 199900},
		{"shorter", "b", "c", 100, 100, 1, 9},
		{"longer", "b", "c", 100, 100, 100000, 99990},
		{"all of it", "", "b", 0, 7, 12, 202002},
	} {
		u.Pitch = c.own
		target := api.Wanted{Phone: "a", Before: c.before, After: c.after, Pitch: c.pitch, Length: c.length}
		isOK(t, c.name, results(unit.TargetCost(u, target, w)), c.want)
		isOK(t, c.name, results(unit.TargetCost(u, target, api.Weights{Join: 1000})), 0)
		isOK(t, c.name, results(unit.Cost([]api.Unit{u}, []api.Wanted{target}, w, []int{0})), c.want)
	}
	isOK(t, "phones are strings", results(unit.TargetCost(api.Unit{Phone: "aa", Before: "aa", Length: 1, To: 1, Begin: []int{0}, End: []int{0}}, api.Wanted{Phone: "aa", Before: "a", Length: 1}, w)), 1000)
}

func TestJoinCosts(t *testing.T) {
	at := func(take, from, to int) api.Unit {
		return api.Unit{Phone: "a", Length: 1, Take: take, From: from, To: to, Begin: []int{-1, 2, 0}, End: []int{3, -4, 0}}
	}
	w := api.Weights{Beside: 9, Pitch: 9, Length: 9, Join: 3}
	for _, c := range []struct {
		name string
		a, b api.Unit
		want int
	}{
		{"follows", at(1, 5, 7), at(1, 7, 8), 0},
		{"another take", at(1, 5, 7), at(2, 7, 8), 30},
		{"too late", at(1, 5, 7), at(1, 8, 9), 30},
		{"too early", at(1, 5, 7), at(1, 6, 9), 30},
		{"is followed", at(1, 7, 8), at(1, 5, 7), 30},
		{"the same", at(1, 5, 7), at(1, 5, 7), 30},
		{"the last samples", at(1, 0, 1<<31-1), at(1, 1<<31-1, 1<<31), 0},
	} {
		isOK(t, c.name, results(unit.JoinCost(c.a, c.b, w)), c.want)
	}
	far, near := at(0, 0, 1), at(0, 0, 1)
	far.End, near.Begin = slices.Repeat([]int{10000}, 40), slices.Repeat([]int{-10000}, 40)
	far.Begin, near.End = near.Begin, far.End
	isOK(t, "the greatest cost", results(unit.JoinCost(far, near, api.Weights{Join: 1000})), 1000*40*20000)
	isOK(t, "no weight", results(unit.JoinCost(far, near, api.Weights{Beside: 1000})), 0)
}

// plain are units with the phone a that do not follow each other, by their pitches; they begin and end alike.
func plain(pitches ...int) []api.Unit {
	var voice []api.Unit
	for i, pitch := range pitches {
		voice = append(voice, api.Unit{Phone: "a", Pitch: pitch, Length: 10, Take: i, To: 1, Begin: []int{0}, End: []int{0}})
	}
	return voice
}

func TestChoices(t *testing.T) {
	w := api.Weights{Pitch: 1, Join: 1}
	isOK(t, "no targets", results(unit.Choose(voiceE(), nil, w)), api.Sequence{}, [][]int{})
	isOK(t, "no targets", results(unit.Best(voiceE(), nil, w, 3)), []api.Sequence{{}})
	isOK(t, "no targets", results(unit.Cost(voiceE(), nil, w, nil)), 0)

	// The cheapest unit for the first target ends where no other one begins.
	voice := plain(100, 101, 102)
	voice[0].End = []int{5}
	isOK(t, "a detour", results(unit.Choose(voice, wanted("a", "a"), w)), api.Sequence{Units: []int{1, 0}, Cost: 1}, [][]int{{5, 1, 2}, {0, 1, 2}})

	isOK(t, "the first of several", results(unit.Choose(plain(101, 99, 101), wanted("a", "a"), w)), api.Sequence{Units: []int{0, 0}, Cost: 2}, [][]int{{2, 2, 2}, {1, 1, 1}})
	isOK(t, "in order", results(unit.Best(plain(101, 99), wanted("a", "a"), w, 50)), []api.Sequence{
		{Units: []int{0, 0}, Cost: 2}, {Units: []int{0, 1}, Cost: 2}, {Units: []int{1, 0}, Cost: 2}, {Units: []int{1, 1}, Cost: 2},
	})
	isOK(t, "by cost first", results(unit.Best(plain(102, 100), wanted("a", "a"), w, 3)), []api.Sequence{
		{Units: []int{1, 1}, Cost: 0}, {Units: []int{0, 1}, Cost: 2}, {Units: []int{1, 0}, Cost: 2},
	})
	isOK(t, "a unit again and again", results(unit.Choose(plain(100), wanted("a", "a", "a"), w)), api.Sequence{Units: []int{0, 0, 0}, Cost: 0}, [][]int{{0}, {0}, {0}})

	other := append(plain(7, 7), voiceE()[1])
	isOK(t, "units of other phones", results(unit.Choose(other, wanted("b", "a"), w)), api.Sequence{Units: []int{2, 0}, Cost: 93}, [][]int{{0, 0, 93}, {93, 93, 0}})
}

// TestManyRanks: more sequences with the same first units than there are other ones.
func TestManyRanks(t *testing.T) {
	voice, targets := plain(100, 200), slices.Repeat(wanted("a"), 6)
	all, e := unit.Best(voice, targets, api.Weights{Pitch: 1}, 50)
	if e != api.OK || len(all) != 50 {
		t.Fatalf("%d sequences, error %d", len(all), e)
	}
	isSame(t, "Best", all, modelSequences(voice, targets, api.Weights{Pitch: 1})[:50])
	all, e = unit.Best(voice, targets[:5], api.Weights{Pitch: 1}, 50)
	isOK(t, "all of them", results(all, e), modelSequences(voice, targets[:5], api.Weights{Pitch: 1}))
}

func TestCertificates(t *testing.T) {
	w := api.Weights{Pitch: 1, Join: 1}
	voice := append(plain(101, 104), voiceE()[1])
	targets := wanted("a", "a", "b")
	best, right, _ := unit.Choose(voice, targets, w)
	isSame(t, "cost", best.Cost, 7) // 1 and 1, and a join for 5
	for _, c := range []struct {
		name   string
		cost   int
		change func(certificate [][]int)
		want   bool
	}{
		{"right", 7, func(c [][]int) {}, true},
		{"a smaller cost", least, func(c [][]int) {}, true},
		{"a greater cost", 8, func(c [][]int) {}, false},
		{"the greatest cost", greatest, func(c [][]int) {}, false},
		{"any numbers of other units", 7, func(c [][]int) { c[0][2], c[1][2], c[2][0], c[2][1] = greatest, least, greatest, least }, true},
		{"a number more at the end", 7, func(c [][]int) { c[2][2]++ }, false},
		{"a number more before", 7, func(c [][]int) { c[1][0]++ }, false},
		{"a number more at the beginning", 7, func(c [][]int) { c[0][1]++ }, false},
		{"a number less at the beginning", 7, func(c [][]int) { c[0][0]-- }, false},
		{"a number less at the beginning, for less", 6, func(c [][]int) { c[0][0]-- }, true},
		{"a number less that matters to nobody", 7, func(c [][]int) { c[0][1] = 7 }, true},
		{"all less", 6, func(c [][]int) { c[0][0], c[0][1], c[1][0], c[1][1], c[2][2] = 6, 6, 5, 5, -1 }, true},
		{"the least numbers", least, func(c [][]int) { c[0][0], c[0][1], c[1][0], c[1][1], c[2][2] = least, least, least, least, least }, true},
		{"the greatest numbers", 7, func(c [][]int) {
			c[0][0], c[0][1], c[1][0], c[1][1], c[2][2] = greatest, greatest, greatest, greatest, greatest
		}, false},
		{"the greatest numbers but at the end", 7, func(c [][]int) { c[0][0], c[0][1], c[1][0], c[1][1] = greatest, greatest, greatest, greatest }, false},
		{"the greatest numbers at the beginning", greatest, func(c [][]int) { c[0][0], c[0][1] = greatest, greatest }, false},
	} {
		certificate := manyOf(3, func() []int { return nil })
		for i := range right {
			certificate[i] = slices.Clone(right[i])
		}
		c.change(certificate)
		isSame(t, c.name, unit.Verify(voice, targets, w, c.cost, certificate), c.want)
		isSame(t, c.name, modelHolds(voice, targets, w, c.cost, certificate), c.want)
	}
	for cost, want := range map[int]bool{0: true, -1: true, least: true, 1: false, greatest: false} {
		isSame(t, "no targets", unit.Verify(voice, nil, w, cost, nil), want)
	}
	isSame(t, "wrong weights", unit.Verify(voice, nil, api.Weights{Join: -1}, 0, nil), false)
	isSame(t, "no units", unit.Verify(nil, nil, w, 0, nil), false)
}

func TestCuts(t *testing.T) {
	single := func(elements ...int) [][]int {
		var vectors [][]int
		for _, element := range elements {
			vectors = append(vectors, []int{element})
		}
		return vectors
	}
	for _, c := range []struct {
		name               string
		frames, prototypes [][]int
		least              int
		lengths            []int
		cost               int
	}{
		{"nothing", nil, nil, 1, nil, 0},
		{"nothing, but long pieces", nil, nil, 100, nil, 0},
		{"one phone", single(1, 5, 9), single(5), 1, []int{3}, 8},
		{"one phone, as short as may be", single(1, 5, 9), single(5), 3, []int{3}, 8},
		{"the shortest first piece", single(4, 4, 4, 4), single(4, 4), 1, []int{1, 3}, 0},
		{"the shortest second piece, too", single(4, 4, 4, 4, 4), single(4, 4, 4), 1, []int{1, 1, 3}, 0},
		{"the shortest pieces of 2", single(4, 4, 4, 4, 4, 4, 4), single(4, 4, 4), 2, []int{2, 2, 3}, 0},
		{"equally near", single(1, 5, 9), single(1, 9), 1, []int{1, 2}, 4},
		{"near the first one", single(1, 4, 9), single(1, 9), 1, []int{2, 1}, 3},
		{"too short a piece", single(1, 9, 9, 9), single(1, 9), 2, []int{2, 2}, 8},
		{"no choice", single(9, 1), single(1, 9), 1, []int{1, 1}, 16},
		{"no choice of 2", single(9, 1, 9, 1), single(1, 9), 2, []int{2, 2}, 16},
		{"a wrong phone between", single(1, 1, 9, 9), single(1, 5, 9), 1, []int{1, 1, 2}, 4},
		{"vectors", [][]int{{1, -1}, {2, -2}, {9, 9}}, [][]int{{1, -2}, {8, 8}}, 1, []int{2, 1}, 4},
	} {
		isOK(t, c.name, results(unit.Cut(c.frames, c.prototypes, c.least)), c.lengths, c.cost)
		isOK(t, c.name, results(unit.CutCost(c.frames, c.prototypes, c.least, c.lengths)), c.cost)
	}
	for _, c := range []struct {
		name               string
		frames, prototypes [][]int
		least              int
	}{
		{"no phones", single(1), nil, 1},
		{"no frames", nil, single(1), 1},
		{"too few frames", single(1, 2), single(1, 2, 3), 1},
		{"too few frames for pieces of 2", single(1, 2, 3), single(1, 2), 2},
		{"too few frames for a piece of 100", single(slices.Repeat([]int{1}, 99)...), single(1), 100},
	} {
		isError(t, c.name, results(unit.Cut(c.frames, c.prototypes, c.least)), api.ErrNone)
	}
}

func TestCovers(t *testing.T) {
	for _, c := range []struct {
		name          string
		n             int
		sets          [][]int
		greedy, least []int
	}{
		{"no numbers", 0, nil, nil, nil},
		{"no numbers, empty sets", 0, [][]int{nil, {}}, nil, nil},
		{"one number", 1, [][]int{nil, {0}, {0}}, []int{1}, []int{1}},
		{"the first of several", 3, [][]int{{2}, {0, 1}, {1, 2}, {0}}, []int{0, 1}, []int{0, 1}},
		{"numbers several times", 3, [][]int{{0, 0, 0, 0}, {1, 2, 1, 2}, {0, 1}}, []int{0, 1}, []int{0, 1}},
		{"in increasing order", 4, [][]int{{3}, {0}, {0, 1, 2}}, []int{0, 2}, []int{0, 2}},
		{"greedy is not the least", 6, [][]int{{0, 1, 2, 3}, {0, 1, 4}, {2, 3, 5}}, []int{0, 1, 2}, []int{1, 2}},
		{"the first least cover", 4, [][]int{{0}, {2, 3}, {0, 1}, {3, 0}, {1, 2}}, []int{1, 2}, []int{1, 2}},
		{"a smaller first set", 3, [][]int{{1}, {0, 2}, {0, 1}, {2}}, []int{0, 1}, []int{0, 1}},
		{"all sets", 3, [][]int{{2}, {1}, {0}}, []int{0, 1, 2}, []int{0, 1, 2}},
		{"one set for all", 3, [][]int{{0, 1}, {2, 0}, {0, 1, 2}, {0, 1, 2}}, []int{2}, []int{2}},
		{"numbers beyond a word", 130, [][]int{{129, 64, 0}, numbersTo(129), {128, 129}}, []int{0, 1}, []int{0, 1}},
	} {
		isOK(t, c.name, results(unit.Greedy(c.n, c.sets)), c.greedy)
		isOK(t, c.name, results(unit.Least(c.n, c.sets)), c.least)
	}
}

// numbersTo are those less than n.
func numbersTo(n int) []int {
	numbers := make([]int, n)
	for i := range numbers {
		numbers[i] = i
	}
	return numbers
}

func TestPrices(t *testing.T) {
	for _, c := range []struct {
		name   string
		n      int
		sets   [][]int
		prices []int
		scale  int
	}{
		{"nothing", 0, nil, nil, 27720},
		{"empty sets", 0, [][]int{nil, nil}, nil, 27720},
		{"one number", 1, [][]int{{0, 0}}, []int{27720}, 27720},
		{"two numbers", 2, [][]int{{0}, {1, 0}}, []int{13860, 13860}, 41580},
		{"new numbers alone", 5, [][]int{{0, 1, 2}, {2, 3, 4}}, []int{9240, 9240, 9240, 13860, 13860}, 50820},
		{"12 numbers", 12, [][]int{numbersTo(12)}, slices.Repeat([]int{2310}, 12), 86021},
		{"a great set that is not taken first", 3, [][]int{{0}, {0, 1}, {2, 1}}, []int{13860, 13860, 27720}, 41580},
	} {
		isOK(t, c.name, results(unit.Price(c.n, c.sets)), c.prices, c.scale)
	}
}

func TestProofs(t *testing.T) {
	for _, c := range []struct {
		name   string
		n      int
		sets   [][]int
		prices []int
		scale  int
		bound  int
		want   bool
	}{
		{"nothing", 0, nil, nil, 1, 0, true},
		{"free numbers", 2, [][]int{{0, 1}}, []int{0, 0}, 5, 0, true},
		{"rounded up", 3, [][]int{{0, 1}, {1, 2}, {0, 2}}, []int{1, 1, 1}, 2, 2, true},
		{"exactly", 4, [][]int{{0, 1}, {2, 3}}, []int{1, 1, 1, 1}, 2, 2, true},
		{"too dear a set", 3, [][]int{{0, 1}, {1, 2}}, []int{1, 1, 2}, 2, 0, false},
		{"too dear a first set", 3, [][]int{{2, 1}, {1, 0}}, []int{1, 1, 2}, 2, 0, false},
		{"numbers several times", 2, [][]int{{0, 0, 0, 1, 1}}, []int{2, 3}, 5, 1, true},
		{"no cover", 2, [][]int{{0}}, []int{2, 9}, 2, 6, true},
		{"empty sets", 1, [][]int{nil}, []int{7}, 3, 3, true},
		{"the greatest prices", 1000, nil, slices.Repeat([]int{1000000000}, 1000), 1, 1000000000000, true},
		{"the greatest scale", 1000, [][]int{numbersTo(1000)}, slices.Repeat([]int{1000000000}, 1000), 1000000000000, 1, true},
		{"one less", 1000, [][]int{numbersTo(1000)}, slices.Repeat([]int{1000000000}, 1000), 999999999999, 0, false},
	} {
		isSame(t, c.name, results(unit.Proves(c.n, c.sets, c.prices, c.scale)), results(c.bound, c.want))
	}
}
