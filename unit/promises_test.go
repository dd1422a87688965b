package unit_test

import (
	"fmt"
	"math/rand/v2"
	"slices"
	"testing"

	"declaim/api"
	"declaim/unit"
)

// TestSumOfCosts: the cost of a sequence is the sum of those that TargetCost and JoinCost return (P6.1).
func TestSumOfCosts(t *testing.T) {
	forRandom(500, func(r *rand.Rand) {
		voice, w := randomVoice(r, fromTo(r, 1, 8)), randomWeights(r)
		isSame(t, "Valid", unit.Valid(voice), true)
		targets := randomTargets(r, voice, r.IntN(8))
		units := randomSequence(r, voice, targets)
		sum := 0
		for i, u := range units {
			cost, e := unit.TargetCost(voice[u], targets[i], w)
			isSame(t, "error of TargetCost", e, api.OK)
			sum += cost
			if i > 0 {
				cost, e := unit.JoinCost(voice[units[i-1]], voice[u], w)
				isSame(t, "error of JoinCost", e, api.OK)
				sum += cost
			}
		}
		isOK(t, "Cost", results(unit.Cost(voice, targets, w, units)), sum)
	})
}

// TestNoCheaperSequence: no sequence costs less than that of Choose; its certificate is accepted for its cost, and no certificate is for more; sequences of Best are in order, all different, and none is missing (P6.2).
func TestNoCheaperSequence(t *testing.T) {
	forRandom(200, func(r *rand.Rand) {
		voice, w := randomVoice(r, fromTo(r, 1, 60)), randomWeights(r)
		targets := randomTargets(r, voice, fromTo(r, 1, 30))
		best, certificate, e := unit.Choose(voice, targets, w)
		isSame(t, "error", e, api.OK)
		isOK(t, "Cost", results(unit.Cost(voice, targets, w, best.Units)), best.Cost)
		isSame(t, "Verify", unit.Verify(voice, targets, w, best.Cost, certificate), true)
		all, _ := unit.Best(voice, targets, w, 50)
		isSame(t, "the first one", all[0], best)
		for i, s := range all {
			isOK(t, "Cost", results(unit.Cost(voice, targets, w, s.Units)), s.Cost)
			if i > 0 && modelCompare(all[i-1], s) >= 0 {
				t.Errorf("%v before %v", all[i-1], s)
			}
		}
		for range 20 {
			units := randomSequence(r, voice, targets)
			if isChance(r, 50) {
				i := r.IntN(len(units))
				units = changed(best.Units, i, func(u *int) { *u = units[i] })
			}
			cost, _ := unit.Cost(voice, targets, w, units)
			other := api.Sequence{Units: units, Cost: cost}
			if modelCompare(other, all[len(all)-1]) <= 0 && !slices.ContainsFunc(all, func(s api.Sequence) bool { return modelCompare(s, other) == 0 }) {
				t.Errorf("%v is missing", other)
			}
			changeNumbers(r, certificate)
			if unit.Verify(voice, targets, w, cost+1, certificate) {
				t.Error("a certificate for more than a sequence costs")
			}
		}
	})
}

func changeNumbers(r *rand.Rand, certificate [][]int) {
	numbers := certificate[r.IntN(len(certificate))]
	numbers[r.IntN(len(numbers))] += fromTo(r, -3, 3)
}

// TestNoCheaperCut: no cut costs less than that of Cut, and none with as little has a shorter first piece (P6.3).
func TestNoCheaperCut(t *testing.T) {
	forRandom(300, func(r *rand.Rand) {
		shortest, phones := fromTo(r, 1, 5), fromTo(r, 1, 12)
		frames := randomVectors(r, shortest*phones+r.IntN(80), 2, someOf(r, 1, 5, 10000))
		prototypes := randomVectors(r, phones, 2, someOf(r, 1, 5, 10000))
		best, least, e := unit.Cut(frames, prototypes, shortest)
		isSame(t, "error", e, api.OK)
		isOK(t, "CutCost", results(unit.CutCost(frames, prototypes, shortest, best)), least)
		for range 100 {
			from, to, by := r.IntN(phones), r.IntN(phones), fromTo(r, 1, 3)
			other := slices.Clone(best)
			other[from] -= by
			other[to] += by
			if cost, e := unit.CutCost(frames, prototypes, shortest, other); e == api.OK && (cost < least || cost == least && slices.Compare(other, best) < 0) {
				t.Errorf("%v is better than %v", other, best)
			}
		}
	})
}

// TestBoundsOfCovers: Least has at most as many sets as Greedy; prices of Price prove a bound, and the greedy cover is at most H(m) times as great as the least one (P6.4).
func TestBoundsOfCovers(t *testing.T) {
	better := 0
	forRandom(300, func(r *rand.Rand) {
		n := fromTo(r, 1, 60)
		sets := make([][]int, fromTo(r, 10, api.MaxExact))
		for number := range n {
			for range fromTo(r, 1, 4) {
				if i := r.IntN(len(sets)); len(sets[i]) < 12 {
					sets[i] = append(sets[i], number)
				}
			}
		}
		greedy, e := unit.Greedy(n, sets)
		fewest, errno := unit.Least(n, sets)
		prices, scale, error := unit.Price(n, sets)
		if e != errno || e != error {
			t.Errorf("errors %d, %d, %d", e, errno, error)
		}
		if e != api.OK {
			return
		}
		isCover(t, n, sets, greedy)
		isCover(t, n, sets, fewest)
		sum := 0
		for _, price := range prices {
			sum += price
		}
		isSame(t, "sum of the prices", sum, 27720*len(greedy))
		bound, proved := unit.Proves(n, sets, prices, scale)
		if !proved || bound > len(fewest) || len(fewest) > len(greedy) || sum > scale*len(fewest) {
			t.Errorf("%d sets, %d by Greedy, at least %d, %v", len(fewest), len(greedy), bound, proved)
		}
		if len(fewest) < len(greedy) {
			better++
		}
	})
	if better < 50 {
		t.Errorf("only %d better than greedy", better)
	}
}

func isCover(t *testing.T, n int, sets [][]int, cover []int) {
	t.Helper()
	covered := map[int]bool{}
	for i, set := range cover {
		if i > 0 && cover[i-1] >= set {
			t.Errorf("not in order: %v", cover)
		}
		for _, number := range sets[set] {
			covered[number] = true
		}
	}
	isSame(t, "covered", len(covered), n)
}

// TestConsequences: those of P6.5.
func TestConsequences(t *testing.T) {
	like := func(u api.Unit) api.Wanted {
		return api.Wanted{Phone: u.Phone, Before: u.Before, After: u.After, Pitch: u.Pitch, Length: u.Length}
	}
	forRandom(300, func(r *rand.Rand) {
		voice, w := randomVoice(r, fromTo(r, 1, 20)), randomWeights(r)
		var recorded []api.Wanted
		at := r.IntN(len(voice))
		for i := range voice {
			if i >= at {
				voice[i].Take, voice[i].From, voice[i].To = 9, i, i+1
				recorded = append(recorded, like(voice[i]))
			}
		}
		best, _, e := unit.Choose(voice, recorded, w)
		isOK(t, "units that follow each other", results(best.Cost, e), 0)

		targets := randomTargets(r, voice, fromTo(r, 1, 10))
		apart := w
		apart.Join = 0
		best, _, _ = unit.Choose(voice, targets, apart)
		sum := 0
		for i := range targets {
			one, _, _ := unit.Choose(voice, targets[i:i+1], w)
			isSame(t, "its own best unit", best.Units[i], one.Units[0])
			sum += one.Cost
		}
		isSame(t, "cost of the best units", best.Cost, sum)

		best, _, _ = unit.Choose(voice, targets, w)
		parts := len(voice[0].Begin)
		more := append(voice, manyOf(fromTo(r, 1, 5), func() api.Unit { return randomUnit(r, parts, 3) })...)
		if other, _, e := unit.Choose(more, targets, w); e != api.OK || other.Cost > best.Cost {
			t.Errorf("%d with more units, error %d, not at most %d", other.Cost, e, best.Cost)
		}
	})
}

// TestMemory: no argument is changed, and results share no memory with arguments or each other.
func TestMemory(t *testing.T) {
	voice, targets, units := voiceE(), wanted("a", "b", "a"), []int{0, 1, 2}
	frames, prototypes, lengths := [][]int{{1}, {1}, {9}}, [][]int{{1}, {8}}, []int{2, 1}
	sets, given := setsE(), []int{9240, 9240, 9240, 27720}
	table := [][]int{{0, 0, 20}, {0, 0, 0}, {0, 0, 20}}
	arguments := func() string {
		return fmt.Sprint(voice, targets, units, frames, prototypes, lengths, sets, given, table)
	}
	before := arguments()
	var lists [][]int
	once := func() string {
		best, certificate, _ := unit.Choose(voice, targets, weightsE())
		all, _ := unit.Best(voice, targets, weightsE(), 5)
		pieces, _, _ := unit.Cut(frames, prototypes, 1)
		greedy, _ := unit.Greedy(4, sets)
		fewest, _ := unit.Least(4, sets)
		prices, scale, _ := unit.Price(4, sets)
		lists = append([][]int{best.Units, pieces, greedy, fewest, prices}, certificate...)
		for _, s := range all {
			lists = append(lists, s.Units)
		}
		cost, _ := unit.Cost(voice, targets, weightsE(), units)
		cut, _ := unit.CutCost(frames, prototypes, 1, lengths)
		bound, proved := unit.Proves(4, sets, given, scale)
		return fmt.Sprint(lists, cost, cut, bound, proved, unit.Valid(voice), unit.Verify(voice, targets, weightsE(), 0, table))
	}
	want := once()
	for _, list := range lists {
		if len(list) == 0 {
			t.Error("an empty list")
		}
		for i := range list {
			list[i] = -1000
		}
	}
	for _, list := range lists {
		_ = append(list, -2000)
	}
	for _, list := range lists {
		if slices.Max(list) > -1000 || slices.Min(list) < -1000 {
			t.Errorf("shared: %v", list)
		}
	}
	isSame(t, "arguments", arguments(), before)
	isSame(t, "results", once(), want)
}

// TestLimits: the longest lists of everything.
func TestLimits(t *testing.T) {
	r := rand.New(rand.NewPCG(1, 2))
	voice := manyOf(api.MaxUnits, func() api.Unit {
		u := randomUnit(r, api.MaxParts, 10000)
		u.Phone = string(rune('a' + r.IntN(10)))
		return u
	})
	targets := randomTargets(r, voice, api.MaxWanted)
	w := api.Weights{Beside: 1000, Pitch: 1000, Length: 1000, Join: 1000}
	best, certificate, e := unit.Choose(voice, targets, w)
	isOK(t, "Cost", results(unit.Cost(voice, targets, w, best.Units)), best.Cost)
	isSame(t, "Choose", e, api.OK)
	isSame(t, "Verify", unit.Verify(voice, targets, w, best.Cost, certificate), true)
	isSame(t, "Verify with more", unit.Verify(voice, targets, w, best.Cost+1, certificate), false)
	all, e := unit.Best(voice, targets, w, 50)
	if e != api.OK || len(all) != 50 || modelCompare(all[0], best) != 0 {
		t.Errorf("Best: %d sequences, error %d", len(all), e)
	}

	frames, prototypes := randomVectors(r, api.MaxCuts, api.MaxParts, 10000), randomVectors(r, api.MaxCuts/2, api.MaxParts, 10000)
	lengths, cost, e := unit.Cut(frames, prototypes, 1)
	isSame(t, "Cut", e, api.OK)
	isOK(t, "CutCost", results(unit.CutCost(frames, prototypes, 1, lengths)), cost)
	far := slices.Repeat([][]int{slices.Repeat([]int{10000}, api.MaxParts)}, api.MaxCuts)
	near := [][]int{slices.Repeat([]int{-10000}, api.MaxParts)}
	isOK(t, "the greatest cost", results(unit.Cut(far, near, 100)), []int{api.MaxCuts}, api.MaxCuts*api.MaxParts*20000)

	single := manyOf(api.MaxCovers, func() []int { return []int{r.IntN(api.MaxNeeded)} })
	_, e = unit.Greedy(api.MaxNeeded, single)
	isSame(t, "Greedy", e, api.ErrNone)
	for i := range single {
		single[i] = []int{api.MaxNeeded - 1 - i}
	}
	isOK(t, "Greedy", results(unit.Greedy(api.MaxNeeded, single)), numbersTo(api.MaxNeeded))
}

// TestLongestLeast: covers of all numbers by as many sets as are allowed, so that many lists of sets must be tried.
func TestLongestLeast(t *testing.T) {
	forRandom(40, func(r *rand.Rand) {
		sets, percent := make([][]int, api.MaxExact), someOf(r, 5, 15, 20, 25, 30, 50)
		for number := range api.MaxNeeded {
			home := r.IntN(len(sets))
			sets[home] = append(sets[home], number)
			for i := range sets {
				if isChance(r, percent) {
					sets[i] = append(sets[i], number)
				}
			}
		}
		greedy, e := unit.Greedy(api.MaxNeeded, sets)
		fewest, errno := unit.Least(api.MaxNeeded, sets)
		if e != errno || len(fewest) > len(greedy) {
			t.Errorf("%v, %v, errors %d and %d", fewest, greedy, e, errno)
		}
		if e == api.OK {
			isCover(t, api.MaxNeeded, sets, fewest)
		}
	})
}

// TestAnyValue: every function returns for all arguments, with zero values if there is an error.
func TestAnyValue(t *testing.T) {
	right := 0
	forRandom(20000, func(r *rand.Rand) {
		number := func() int {
			if isChance(r, 95) {
				return r.IntN(3)
			}
			return someOf(r, int(r.Uint64()), least, -10001, -10000, -1, 3, 50, 51, 100, 101, 1000, 1001, 2000, 2001, 10000, 10001, 100001, 1<<31, 1<<31+1, greatest)
		}
		numbers := func() []int { return manyOf(r.IntN(3), number) }
		lists := func() [][]int { return manyOf(r.IntN(4), numbers) }
		phone := func() string {
			return someOf(r, "a", "a", "a", "a", "a", "b", "", someOf(r, "\x00", "\xff", "é", "aaaaaaaa", "aaaaaaaaa"))
		}
		target := func() api.Wanted {
			return api.Wanted{Phone: phone(), Before: phone(), After: phone(), Pitch: number(), Length: 1 + number()}
		}
		one := func() api.Unit {
			like := target()
			u := api.Unit{Phone: like.Phone, Before: like.Before, After: like.After, Pitch: like.Pitch, Length: like.Length, Take: number(), From: number(), To: 3 + number()}
			u.Begin, u.End = manyOf(1, number), manyOf(1, number)
			if isChance(r, 10) {
				u.Begin, u.End = numbers(), numbers()
			}
			return u
		}
		voice, targets := manyOf(r.IntN(4), one), manyOf(r.IntN(3), target)
		w := api.Weights{Beside: number(), Pitch: number(), Length: number(), Join: number()}
		single := func() [][]int { return manyOf(r.IntN(4), func() []int { return manyOf(1, number) }) }
		for i, got := range [][]any{
			results(unit.TargetCost(one(), target(), w)),
			results(unit.JoinCost(one(), one(), w)),
			results(unit.Cost(voice, targets, w, numbers())),
			results(unit.Choose(voice, targets, w)),
			results(unit.Best(voice, targets, w, number())),
			results(unit.Cut(single(), single(), number())),
			results(unit.CutCost(single(), single(), number(), numbers())),
			results(unit.Greedy(number(), lists())),
			results(unit.Least(number(), lists())),
			results(unit.Price(number(), lists())),
		} {
			if e := got[len(got)-1].(api.Errno); e != api.OK {
				isError(t, fmt.Sprint("call ", i), got, e)
			} else {
				right++
			}
		}
		if unit.Valid(voice) && unit.Verify(voice, targets, w, number(), lists()) {
			right++
		}
		if bound, proved := unit.Proves(number(), lists(), numbers(), number()); !proved && bound != 0 {
			t.Errorf("Proves: bound %d", bound)
		} else if proved {
			right++
		}
	})
	if right < 20000 {
		t.Errorf("only %d without an error", right)
	}
}
