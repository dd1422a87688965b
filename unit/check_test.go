package unit_test

import (
	"slices"
	"strconv"
	"strings"
	"testing"

	"declaim/api"
	"declaim/unit"
)

// judge checks that a call has this error; OK: that it has none.
func judge(t *testing.T, name string, want api.Errno, got []any) {
	t.Helper()
	if want != api.OK {
		isError(t, name, got, want)
	} else if e := got[len(got)-1]; e != api.OK {
		t.Errorf("%s: error %d", name, e)
	}
}

// orArg is ErrArg for what is not valid.
func orArg(valid bool) api.Errno {
	if valid {
		return api.OK
	}
	return api.ErrArg
}

// bounds are a range's numbers at its ends and others near it and far from it, and whether they are in it.
func bounds(from, to int) map[int]bool {
	all := map[int]bool{from: true, to: true, least: from == least, greatest: to == greatest}
	if from > least {
		all[from-1] = false
	}
	if to < greatest {
		all[to+1] = false
	}
	return all
}

// judgeTask judges all calls with a voice, targets and weights; if they are right, there are units for the targets.
func judgeTask(t *testing.T, name string, want api.Errno, voice []api.Unit, targets []api.Wanted, w api.Weights) {
	t.Helper()
	var units []int
	for _, target := range targets {
		units = append(units, slices.IndexFunc(voice, func(u api.Unit) bool { return u.Phone == target.Phone }))
	}
	judge(t, name, want, results(unit.Cost(voice, targets, w, units)))
	judge(t, name, want, results(unit.Choose(voice, targets, w)))
	judge(t, name, want, results(unit.Best(voice, targets, w, 2)))
	certificate := manyOf(len(targets), func() []int { return make([]int, len(voice)) })
	isSame(t, name, unit.Verify(voice, targets, w, 0, certificate), want == api.OK)
}

// judgeUnit judges all calls with a unit whose vectors have one element.
func judgeUnit(t *testing.T, name string, valid bool, u api.Unit) {
	t.Helper()
	target := wanted("a")[0]
	if valid {
		target.Phone = u.Phone
	}
	judge(t, name, orArg(valid), results(unit.TargetCost(u, target, weightsE())))
	other := voiceE()[1]
	judge(t, name, orArg(valid), results(unit.JoinCost(u, other, weightsE())))
	judge(t, name, orArg(valid), results(unit.JoinCost(other, u, weightsE())))
	for i := range 3 {
		voice := voiceE()
		voice[i] = u
		isSame(t, name, unit.Valid(voice), valid)
		judgeTask(t, name, orArg(valid), voice, nil, weightsE())
	}
}

func TestCheckUnits(t *testing.T) {
	change := func(name string, from, to int, change func(u *api.Unit, n int)) {
		t.Helper()
		for n, valid := range bounds(from, to) {
			u := api.Unit{Phone: "a", Pitch: 100, Length: 10, Take: 2, From: 5, To: 10, Begin: []int{0}, End: []int{4}}
			change(&u, n)
			judgeUnit(t, name+" "+strconv.Itoa(n), valid, u)
		}
	}
	change("Pitch", 0, 2000, func(u *api.Unit, n int) { u.Pitch = n })
	change("Length", 1, 100000, func(u *api.Unit, n int) { u.Length = n })
	change("Take", 0, greatest, func(u *api.Unit, n int) { u.Take = n })
	change("From", 0, 9, func(u *api.Unit, n int) { u.From = n })
	change("To", 6, 1<<31, func(u *api.Unit, n int) { u.To = n })
	change("the last samples", 0, 1<<31-1, func(u *api.Unit, n int) { u.From, u.To = n, 1<<31 })
	change("Begin", -10000, 10000, func(u *api.Unit, n int) { u.Begin[0] = n })
	change("End", -10000, 10000, func(u *api.Unit, n int) { u.End[0] = n })
}

// phonesE are strings, and whether they are phones.
func phonesE() map[string]bool {
	return map[string]bool{
		"a": true, "!": true, "~": true, "!~!~!~!~": true, "aaaaaaaa": true, "\\\"'`": true, "0": true,
		"aaaaaaaaa": false, " ": false, "a ": false, " a": false, "aaaa aaa": false, "\x7f": false, "a\x7f": false, "\x00": false, "é": false, "\xff": false, "\x80aa": false,
		strings.Repeat("a", 1000): false,
	}
}

func TestCheckPhones(t *testing.T) {
	for phone, valid := range phonesE() {
		for field := range 3 {
			u, target := voiceE()[0], wanted("a")[0]
			*[]*string{&u.Phone, &u.Before, &u.After}[field] = phone
			*[]*string{&target.Phone, &target.Before, &target.After}[field] = phone
			judgeUnit(t, strconv.Quote(phone), valid, u)
			judgeTarget(t, strconv.Quote(phone), valid, target)
		}
	}
	for field := range 3 {
		u, target := voiceE()[0], wanted("a")[0]
		u.Before, u.After, target.Before, target.After = "b", "b", "b", "b"
		*[]*string{&u.Phone, &u.Before, &u.After}[field] = ""
		*[]*string{&target.Phone, &target.Before, &target.After}[field] = ""
		judgeUnit(t, "nothing", field > 0, u)
		judgeTarget(t, "nothing", field > 0, target)
	}
}

func TestCheckVectors(t *testing.T) {
	vector := func(n int) []int { return make([]int, n) }
	for _, c := range []struct {
		begin, end int
		valid      bool
	}{{1, 1, true}, {2, 2, true}, {40, 40, true}, {0, 0, false}, {41, 41, false}, {1, 2, false}, {2, 1, false}, {0, 1, false}, {1, 0, false}, {40, 41, false}} {
		voice := voiceE()
		for i := range voice {
			voice[i].Begin, voice[i].End = vector(c.begin), vector(c.end)
		}
		isSame(t, "Valid", unit.Valid(voice), c.valid)
		judge(t, "TargetCost", orArg(c.valid), results(unit.TargetCost(voice[0], wanted("a")[0], weightsE())))
		judge(t, "JoinCost", orArg(c.valid), results(unit.JoinCost(voice[0], voice[1], weightsE())))
		judgeTask(t, "vectors", orArg(c.valid), voice, wanted("a", "b"), weightsE())
	}
	for i := range 3 {
		u := voiceE()[i]
		u.Begin, u.End = vector(2), vector(2)
		judge(t, "TargetCost", api.OK, results(unit.TargetCost(u, wanted(u.Phone)[0], weightsE())))
		other := voiceE()[1]
		other.From = u.To
		judge(t, "longer before", api.ErrArg, results(unit.JoinCost(u, other, weightsE())))
		judge(t, "longer behind", api.ErrArg, results(unit.JoinCost(voiceE()[1], u, weightsE())))
		voice := changed(voiceE(), i, func(old *api.Unit) { *old = u })
		isSame(t, "Valid", unit.Valid(voice), false)
		judgeTask(t, "another length", api.ErrArg, voice, nil, weightsE())
		for n, valid := range bounds(-10000, 10000) {
			wide := slices.Repeat([]api.Unit{u}, 2)
			wide[i%2].Begin = []int{0, n}
			judge(t, "the last element", orArg(valid), results(unit.JoinCost(wide[0], wide[1], weightsE())))
			isSame(t, "Valid", unit.Valid(wide), valid)
		}
	}
}

// judgeTarget judges all calls with a target.
func judgeTarget(t *testing.T, name string, valid bool, target api.Wanted) {
	t.Helper()
	voice := voiceE()
	if valid {
		voice[0].Phone = target.Phone
	}
	judge(t, name, orArg(valid), results(unit.TargetCost(voice[0], target, weightsE())))
	for i := range 2 {
		targets := slices.Repeat([]api.Wanted{{Phone: voice[0].Phone, Length: 1}}, 2)
		targets[i] = target
		judgeTask(t, name, orArg(valid), voice, targets, weightsE())
	}
}

func TestCheckTargets(t *testing.T) {
	change := func(name string, from, to int, change func(target *api.Wanted, n int)) {
		t.Helper()
		for n, valid := range bounds(from, to) {
			target := wanted("a")[0]
			change(&target, n)
			judgeTarget(t, name+" "+strconv.Itoa(n), valid, target)
		}
	}
	change("Pitch", 0, 2000, func(target *api.Wanted, n int) { target.Pitch = n })
	change("Length", 1, 100000, func(target *api.Wanted, n int) { target.Length = n })
}

func TestCheckWeights(t *testing.T) {
	for field := range 4 {
		for n, valid := range bounds(0, 1000) {
			w := weightsE()
			*[]*int{&w.Beside, &w.Pitch, &w.Length, &w.Join}[field] = n
			judge(t, "TargetCost", orArg(valid), results(unit.TargetCost(voiceE()[0], wanted("a")[0], w)))
			judge(t, "JoinCost", orArg(valid), results(unit.JoinCost(voiceE()[0], voiceE()[1], w)))
			judgeTask(t, "weights", orArg(valid), voiceE(), wanted("a", "b"), w)
			judgeTask(t, "weights", orArg(valid), voiceE(), nil, w)
		}
	}
}

func TestCheckLong(t *testing.T) {
	voice := func(n int) []api.Unit { return slices.Repeat(voiceE()[:1], n) }
	targets := func(n int) []api.Wanted { return slices.Repeat(wanted("a"), n) }
	wrong := api.Weights{Join: -1}
	for n, want := range map[int]api.Errno{0: api.ErrArg, 1: api.OK, api.MaxUnits: api.OK, api.MaxUnits + 1: api.ErrLong} {
		isSame(t, "Valid", unit.Valid(voice(n)), want == api.OK)
		judgeTask(t, "units", want, voice(n), nil, weightsE())
		judgeTask(t, "units", want, voice(n), wanted("a"), weightsE())
	}
	for n, want := range map[int]api.Errno{0: api.OK, 1: api.OK, api.MaxWanted: api.OK, api.MaxWanted + 1: api.ErrLong} {
		judgeTask(t, "targets", want, voice(2), targets(n), weightsE())
		judgeTask(t, "no units", max(want, api.ErrArg), nil, targets(n), weightsE())
	}
	judgeTask(t, "too many units, no weights", api.ErrLong, voice(api.MaxUnits+1), nil, wrong)
	judgeTask(t, "too many wrong units", api.ErrLong, make([]api.Unit, api.MaxUnits+1), nil, weightsE())
	judgeTask(t, "too many targets, no weights", api.ErrLong, voice(1), targets(api.MaxWanted+1), wrong)
	judgeTask(t, "too many targets, wrong units", api.ErrLong, make([]api.Unit, 1), targets(api.MaxWanted+1), weightsE())
	judgeTask(t, "too many wrong targets", api.ErrLong, voice(1), make([]api.Wanted, api.MaxWanted+1), weightsE())
	judge(t, "too many targets, a wrong n", api.ErrLong, results(unit.Best(voice(1), targets(api.MaxWanted+1), weightsE(), 0)))
	judge(t, "too many targets, no sequence", api.ErrLong, results(unit.Cost(voice(1), targets(api.MaxWanted+1), weightsE(), nil)))
	judge(t, "a list that is too long", api.ErrArg, results(unit.Cost(voice(1), targets(1), weightsE(), make([]int, api.MaxUnits+1))))
}

func TestCheckSequences(t *testing.T) {
	for _, c := range []struct {
		name  string
		units []int
		want  api.Errno
	}{
		{"right", []int{0, 1, 2}, api.OK},
		{"used again", []int{2, 1, 2}, api.OK},
		{"too short", []int{0, 1}, api.ErrArg},
		{"too long", []int{0, 1, 2, 0}, api.ErrArg},
		{"none", nil, api.ErrArg},
		{"another phone", []int{0, 0, 2}, api.ErrArg},
		{"another phone at the end", []int{0, 1, 1}, api.ErrArg},
		{"below", []int{-1, 1, 0}, api.ErrArg},
		{"above", []int{0, 1, 3}, api.ErrArg},
		{"far below", []int{least, 1, 0}, api.ErrArg},
		{"far above", []int{0, 1, greatest}, api.ErrArg},
	} {
		judge(t, c.name, c.want, results(unit.Cost(voiceE(), wanted("a", "b", "a"), weightsE(), c.units)))
	}
	judge(t, "no targets", api.ErrArg, results(unit.Cost(voiceE(), nil, weightsE(), []int{0})))
	judge(t, "a phone without units", api.ErrArg, results(unit.Cost(voiceE(), wanted("x"), weightsE(), []int{0})))
}

func TestCheckBest(t *testing.T) {
	for n, valid := range bounds(1, 50) {
		judge(t, "n", orArg(valid), results(unit.Best(voiceE(), wanted("a"), weightsE(), n)))
		judge(t, "n without targets", orArg(valid), results(unit.Best(voiceE(), nil, weightsE(), n)))
		want := api.ErrNone
		if !valid {
			want = api.ErrArg
		}
		judge(t, "n without units", want, results(unit.Best(voiceE(), wanted("x"), weightsE(), n)))
	}
}

func TestCheckNone(t *testing.T) {
	for _, targets := range [][]api.Wanted{wanted("x"), wanted("x", "a"), wanted("a", "x"), wanted("a", "A", "b"), wanted("aa")} {
		judge(t, "Choose", api.ErrNone, results(unit.Choose(voiceE(), targets, weightsE())))
		judge(t, "Best", api.ErrNone, results(unit.Best(voiceE(), targets, weightsE(), 5)))
		judge(t, "Choose with wrong weights", api.ErrArg, results(unit.Choose(voiceE(), targets, api.Weights{Join: 1001})))
		certificate := manyOf(len(targets), func() []int { return make([]int, 3) })
		isSame(t, "Verify", unit.Verify(voiceE(), targets, weightsE(), least, certificate), false)
	}
	other := wanted("b")[0]
	judge(t, "TargetCost", api.ErrNone, results(unit.TargetCost(voiceE()[0], other, weightsE())))
	judge(t, "TargetCost with wrong weights", api.ErrArg, results(unit.TargetCost(voiceE()[0], other, api.Weights{Pitch: 1001})))
	judge(t, "TargetCost of a wrong unit", api.ErrArg, results(unit.TargetCost(api.Unit{Phone: "a"}, other, weightsE())))
}

// judgeCut judges Cut and CutCost; if all is right, there is a cut with these lengths.
func judgeCut(t *testing.T, name string, want api.Errno, frames, prototypes [][]int, shortest int, lengths ...int) {
	t.Helper()
	judge(t, name, want, results(unit.Cut(frames, prototypes, shortest)))
	judge(t, name, want, results(unit.CutCost(frames, prototypes, shortest, lengths)))
}

func TestCheckCut(t *testing.T) {
	vectors := func(n, parts int) [][]int { return manyOf(n, func() []int { return make([]int, parts) }) }
	for parts, valid := range map[int]bool{0: false, 1: true, 40: true, 41: false} {
		judgeCut(t, "parts", orArg(valid), vectors(3, parts), vectors(2, parts), 1, 1, 2)
	}
	for i := range 3 {
		frames := vectors(3, 2)
		frames[i] = make([]int, 1+2*(i%2))
		judgeCut(t, "a frame of another length", api.ErrArg, frames, vectors(2, 2), 1, 1, 2)
		judgeCut(t, "a prototype of another length", api.ErrArg, vectors(3, 2), frames, 1, 1, 1, 1)
	}
	judgeCut(t, "prototypes of another length", api.ErrArg, vectors(3, 2), vectors(2, 1), 1, 1, 2)
	judgeCut(t, "frames alone of several lengths", api.ErrArg, [][]int{{1}, {1, 2}}, nil, 1)
	judgeCut(t, "prototypes alone of several lengths", api.ErrArg, nil, [][]int{{1}, {1, 2}}, 1)
	for n, valid := range bounds(-10000, 10000) {
		judgeCut(t, "an element", orArg(valid), [][]int{{1, 2}, {2, n}}, vectors(2, 2), 1, 1, 1)
		judgeCut(t, "an element of a prototype", orArg(valid), vectors(2, 2), [][]int{{1, 2}, {n, 3}}, 1, 1, 1)
	}
	for n, valid := range bounds(1, 100) {
		judgeCut(t, "least", orArg(valid), vectors(300, 1), vectors(2, 1), n, 150, 150)
		judgeCut(t, "least without phones", orArg(valid), nil, nil, n)
	}
	for n, want := range map[int]api.Errno{api.MaxCuts: api.OK, api.MaxCuts + 1: api.ErrLong} {
		judgeCut(t, "frames", want, vectors(n, 1), vectors(1, 1), 1, n)
		judgeCut(t, "frames and phones", want, vectors(n, 1), vectors(n, 1), 1, slices.Repeat([]int{1}, n)...)
	}
	judge(t, "phones", api.ErrNone, results(unit.Cut(vectors(5, 1), vectors(api.MaxCuts, 1), 1)))
	judgeCut(t, "too many phones", api.ErrLong, vectors(5, 1), vectors(api.MaxCuts+1, 1), 1)
	judgeCut(t, "too many phones, least 0", api.ErrLong, nil, vectors(api.MaxCuts+1, 1), 0)
	judgeCut(t, "too many wrong frames", api.ErrLong, vectors(api.MaxCuts+1, 0), vectors(1, 1), 1)
}

func TestCheckLengths(t *testing.T) {
	frames, prototypes := [][]int{{1}, {2}, {3}, {4}, {5}}, [][]int{{1}, {2}}
	for _, c := range []struct {
		name    string
		lengths []int
		want    api.Errno
	}{
		{"right", []int{2, 3}, api.OK},
		{"also right", []int{3, 2}, api.OK},
		{"too short a piece", []int{1, 4}, api.ErrArg},
		{"too short a piece at the end", []int{4, 1}, api.ErrArg},
		{"too few frames", []int{2, 2}, api.ErrArg},
		{"too many frames", []int{3, 3}, api.ErrArg},
		{"too few pieces", []int{5}, api.ErrArg},
		{"too many pieces", []int{2, 3, 0}, api.ErrArg},
		{"none", nil, api.ErrArg},
		{"a sum that overflows", []int{greatest, greatest}, api.ErrArg},
		{"a piece below 0", []int{7, -2}, api.ErrArg},
	} {
		judge(t, c.name, c.want, results(unit.CutCost(frames, prototypes, 2, c.lengths)))
	}
	judge(t, "no cut", api.ErrArg, results(unit.CutCost(frames, prototypes, 3, []int{3, 3})))
	judge(t, "no phones", api.ErrArg, results(unit.CutCost(frames, nil, 1, nil)))
	judge(t, "no frames", api.ErrArg, results(unit.CutCost(nil, prototypes, 1, []int{0, 0})))
	judge(t, "a sum that overflows to the right one", api.ErrArg, results(unit.CutCost(frames, [][]int{{1}, {1}, {1}, {1}}, 1, []int{1 << 62, 1 << 62, 1 << 62, 1<<62 + 5})))
}

// judgeCover judges all calls with numbers and sets; if they are right, there is a cover, and no set has more than 12 numbers.
func judgeCover(t *testing.T, name string, want api.Errno, n int, sets [][]int) {
	t.Helper()
	judge(t, name, want, results(unit.Greedy(n, sets)))
	judge(t, name, want, results(unit.Price(n, sets)))
	if len(sets) <= api.MaxExact {
		judge(t, name, want, results(unit.Least(n, sets)))
	}
	_, proved := unit.Proves(n, sets, make([]int, min(max(n, 0), 2*api.MaxNeeded)), 1)
	isSame(t, name, proved, want == api.OK)
}

func TestCheckCover(t *testing.T) {
	for number, valid := range bounds(0, 3) {
		for i := range setsE() {
			judgeCover(t, "a number", orArg(valid), 4, changed(setsE(), i, func(set *[]int) { *set = append(*set, number) }))
		}
	}
	judgeCover(t, "no number", api.ErrArg, 0, [][]int{{0}})
	for _, n := range []int{-1, least} {
		judgeCover(t, "n", api.ErrArg, n, nil)
		judgeCover(t, "n", api.ErrArg, n, [][]int{nil})
	}
	single := func(n int) [][]int {
		sets := make([][]int, n)
		for i := range sets {
			sets[i] = []int{i % 1000}
		}
		return sets
	}
	judgeCover(t, "all numbers", api.OK, api.MaxNeeded, single(api.MaxCovers))
	judgeCover(t, "a set more", api.ErrLong, api.MaxNeeded, single(api.MaxCovers+1))
	judgeCover(t, "a number more", api.ErrLong, api.MaxNeeded+1, single(api.MaxCovers))
	judgeCover(t, "a number more, without sets", api.ErrLong, api.MaxNeeded+1, nil)
	judgeCover(t, "far more numbers", api.ErrLong, greatest, nil)
	judgeCover(t, "a set more, and wrong numbers", api.ErrLong, 1, single(api.MaxCovers+1))
	judgeCover(t, "a set more, and a wrong n", api.ErrLong, -1, single(api.MaxCovers+1))
	judgeCover(t, "a number more, and wrong ones", api.ErrLong, api.MaxNeeded+1, [][]int{{-1}})
	judgeCover(t, "wrong numbers, and uncovered ones", api.ErrArg, 3, [][]int{{-1}})

	judge(t, "24 sets", api.OK, results(unit.Least(24, single(24))))
	judge(t, "25 sets", api.ErrLong, results(unit.Least(25, single(25))))
	judge(t, "25 sets without numbers", api.ErrLong, results(unit.Least(0, make([][]int, 25))))
	judge(t, "25 sets, wrong numbers", api.ErrLong, results(unit.Least(1, single(25))))
	judge(t, "25 sets, a wrong n", api.ErrLong, results(unit.Least(-1, make([][]int, 25))))
	judge(t, "25 sets, uncovered numbers", api.ErrLong, results(unit.Least(30, single(25))))
}

func TestCheckUncovered(t *testing.T) {
	for _, sets := range [][][]int{nil, {nil}, {{0}}, {{0, 1}, {1, 0}}, {{1, 2}}, {{0, 0, 2, 2}}} {
		judge(t, "Greedy", api.ErrNone, results(unit.Greedy(3, sets)))
		judge(t, "Least", api.ErrNone, results(unit.Least(3, sets)))
		judge(t, "Price", api.ErrNone, results(unit.Price(3, sets)))
	}
}

func TestCheckPrice(t *testing.T) {
	set := func(n int) []int {
		numbers := make([]int, n)
		for i := range numbers {
			numbers[i] = i
		}
		return numbers
	}
	judge(t, "12 numbers", api.OK, results(unit.Price(12, [][]int{set(12)})))
	judge(t, "12 numbers, each one twice", api.OK, results(unit.Price(12, [][]int{append(set(12), set(12)...)})))
	judge(t, "13 numbers", api.ErrArg, results(unit.Price(13, [][]int{set(13)})))
	judge(t, "13 numbers of the last set", api.ErrArg, results(unit.Price(13, [][]int{set(12), nil, set(13)})))
	judge(t, "13 numbers, and uncovered ones", api.ErrArg, results(unit.Price(14, [][]int{set(13)})))
}

func TestCheckProves(t *testing.T) {
	proves := func(name string, valid bool, n int, sets [][]int, prices []int, scale int) {
		t.Helper()
		bound, proved := unit.Proves(n, sets, prices, scale)
		if proved != valid || !proved && bound != 0 {
			t.Errorf("%s: %d, %v", name, bound, proved)
		}
	}
	for length := range 7 {
		proves("prices", length == 4, 4, setsE(), make([]int, length), 1)
	}
	for price, valid := range bounds(0, 1000000000) {
		for i := range 4 {
			prices := changed(make([]int, 4), i, func(p *int) { *p = price })
			proves("a price", valid, 4, setsE(), prices, 1000000000000)
			proves("a price without sets", valid, 4, nil, prices, 1000000000000)
		}
	}
	for scale, valid := range bounds(1, 1000000000000) {
		proves("scale", valid, 4, setsE(), make([]int, 4), scale)
		proves("scale without numbers", valid, 0, nil, nil, scale)
	}
}

func TestCheckVerify(t *testing.T) {
	verify := func(name string, want bool, cost int, targets []api.Wanted, certificate [][]int) {
		t.Helper()
		isSame(t, name, unit.Verify(voiceE(), targets, weightsE(), cost, certificate), want)
	}
	row := []int{0, 0, 0}
	verify("right", true, 0, wanted("a", "b"), [][]int{row, row})
	verify("too few lists", false, 0, wanted("a", "b"), [][]int{row})
	verify("too many lists", false, 0, wanted("a", "b"), [][]int{row, row, row})
	verify("no lists", false, 0, wanted("a", "b"), nil)
	for i := range 2 {
		verify("a short list", false, 0, wanted("a", "b"), changed([][]int{row, row}, i, func(list *[]int) { *list = row[:2] }))
		verify("a long list", false, 0, wanted("a", "b"), changed([][]int{row, row}, i, func(list *[]int) { *list = make([]int, 4) }))
		verify("an empty list", false, 0, wanted("a", "b"), changed([][]int{row, row}, i, func(list *[]int) { *list = nil }))
	}
	verify("no targets", true, 0, nil, nil)
	verify("no targets, a list", false, 0, nil, [][]int{row})
	verify("no targets, an empty list", false, 0, nil, [][]int{nil})
}
