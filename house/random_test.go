package house_test

import (
	"math/rand/v2"
	"slices"
	"testing"

	"declaim/api"
	"declaim/house"
)

// Random arguments have the results of the model.

func TestRandomChips(t *testing.T) {
	forRandom(300, func(r *rand.Rand) {
		start, n := someOf(r, r.IntN(100), r.IntN(1<<62), 1<<62+r.IntN(1<<17+1)), r.IntN(300)
		isOK(t, "Chips", results(house.Chips(start, n)), modelChips(start, n))
		m := randomStamp(r)
		message := randomMessage(r, m)
		isOK(t, "Word", results(house.Word(m, message)), modelWord(m, message))
	})
}

func TestRandomSign(t *testing.T) {
	seen := map[api.Errno]int{}
	forRandom(600, func(r *rand.Rand) {
		m := randomStamp(r)
		message := randomMessage(r, m)
		a := randomWave(r, r.IntN(3*frameOf(m)), someOf(r, 3, 300, highest))
		marked, depth := modelMark(a, m, message)
		if len(a) > 0 && (slices.Max(marked) > highest || slices.Min(marked) < lowest) {
			seen[api.ErrNone]++
			isError(t, "Sign", results(house.Sign(a, m, message)), api.ErrNone)
			return
		}
		seen[api.OK]++
		isOK(t, "Sign", results(house.Sign(a, m, message)), marked, depth)
	})
	if min(seen[api.OK], seen[api.ErrNone]) < 100 {
		t.Errorf("only %v", seen)
	}
}

// bend changes a few samples of a wave.
func bend(r *rand.Rand, a []int, by int) {
	for range r.IntN(4) {
		i := r.IntN(len(a))
		a[i] = min(max(a[i]+fromTo(r, -by, by), lowest), highest)
	}
}

func TestRandomFind(t *testing.T) {
	found, lost := 0, 0
	forRandom(1000, func(r *rand.Rand) {
		m := randomStamp(r)
		m.Period, m.Margin = min(m.Period, 20), fromTo(r, 1, 60)
		a, _, e := house.Sign(randomWave(r, frameOf(m)*3, 3), m, randomMessage(r, m))
		if e != api.OK {
			t.Fatal(e)
		}
		bend(r, a, m.Margin)
		a = slices.Concat(randomWave(r, r.IntN(9), 9), a[r.IntN(9):])
		threshold := someOf(r, m.Margin, fromTo(r, 1, m.Margin), m.Margin+r.IntN(5))
		finds := modelFinds(a, m, threshold)
		found += len(finds)
		if len(finds) < 2 {
			lost++
		}
		isOK(t, "Find", results(house.Find(a, m, threshold)), finds)
	})
	if found < 500 || lost < 100 {
		t.Errorf("only %d found, or %d lost", found, lost)
	}
}

// TestRandomOnes: waves in which all that matters is the sum of neighboring samples.
func TestRandomOnes(t *testing.T) {
	found := 0
	forRandom(1000, func(r *rand.Rand) {
		a := manyOf(framesOnes+r.IntN(40), func() int { return fromTo(r, 2, 9) })
		for range r.IntN(3) {
			a[r.IntN(len(a))] = -8
		}
		threshold := fromTo(r, 1, 14)
		finds := modelFinds(a, stampOnes(), threshold)
		found += len(finds)
		isOK(t, "Find", results(house.Find(a, stampOnes(), threshold)), finds)
	})
	if found < 2000 {
		t.Errorf("only %d found", found)
	}
}

func TestRandomCount(t *testing.T) {
	forRandom(2000, func(r *rand.Rand) {
		great := someOf(r, 2, 9, 1000, 1000000000)
		x := randomWave(r, r.IntN(13), great)
		threshold := someOf(r, 0, fromTo(r, -great, great), fromTo(r, -5*great, 5*great), someOf(r, modelSums(x)...))
		isOK(t, "Count", results(house.Count(x, threshold)), modelWays(x, func(sum int) bool { return sum >= threshold }))
		isOK(t, "Flips", results(house.Flips(x)), modelFlips(x))
	})
}

func TestAllSigns(t *testing.T) {
	for n := range 15 {
		for wins := range n + 1 {
			isOK(t, "Signs", results(house.Signs(wins, n)), modelSigns(wins, n))
		}
	}
}

func TestRandomHolm(t *testing.T) {
	seen := map[bool]int{}
	forRandom(3000, func(r *rand.Rand) {
		den := someOf(r, 2, 20, fromTo(r, 2, 1000))
		num := fromTo(r, 1, den-1)
		l := manyOf(r.IntN(someOf(r, 6, api.MaxResults+1)), func() api.Chance {
			all := someOf(r, 60, 1<<r.IntN(41), fromTo(r, 1, 1<<40))
			return chance(r.IntN(min(all, all/someOf(r, 1, 1, 20, 100)+1)+1), all)
		})
		want := modelHolm(l, num, den)
		for _, accepted := range want {
			seen[accepted]++
		}
		isOK(t, "Holm", results(house.Holm(l, num, den)), want)
	})
	if min(seen[false], seen[true]) < 3000 {
		t.Errorf("only %v", seen)
	}
}

func TestRandomBalanced(t *testing.T) {
	seen := map[bool]int{}
	forRandom(3000, func(r *rand.Rand) {
		n := fromTo(r, 1, 6)
		plan, _ := house.Square(n)
		for range r.IntN(3) {
			more, _ := house.Square(n)
			plan = append(plan, more...)
		}
		if isChance(r, 30) {
			plan = slices.Delete(plan, 0, r.IntN(len(plan)+1))
		}
		renamed := r.Perm(n)
		for _, row := range plan {
			for place, voice := range row {
				row[place] = renamed[voice]
			}
		}
		r.Shuffle(len(plan), func(i, j int) { plan[i], plan[j] = plan[j], plan[i] })
		for range r.IntN(3) {
			if len(plan) > 0 {
				row := plan[r.IntN(len(plan))]
				i, j := r.IntN(n), r.IntN(n)
				row[i], row[j] = row[j], row[i]
			}
		}
		want := modelBalanced(plan, n)
		seen[want]++
		isSame(t, "Balanced", house.Balanced(plan, n), want)
	})
	if min(seen[false], seen[true]) < 700 {
		t.Errorf("only %v", seen)
	}
}

func TestRandomChanges(t *testing.T) {
	forRandom(2000, func(r *rand.Rand) {
		a := randomWave(r, r.IntN(40), someOf(r, 1, 9, highest))
		b := slices.Clone(a)[:r.IntN(len(a)+1)]
		if isChance(r, 50) {
			b = randomWave(r, r.IntN(40), 1)
		}
		if len(b) > 0 {
			bend(r, b, someOf(r, 1, 70000))
		}
		distance := someOf(r, 1, fromTo(r, 1, 9), api.MaxWave)
		isOK(t, "Changes", results(house.Changes(a, b, distance)), modelChanges(a, b, distance))
		isOK(t, "Changes", results(house.Changes(b, a, distance)), modelChanges(a, b, distance))
	})
}

func TestRandomVersions(t *testing.T) {
	blamed, suspected, innocent := 0, 0, 0
	forRandom(1500, func(r *rand.Rand) {
		versions := []api.Grammar{randomGrammar(r)}
		for range r.IntN(6) {
			versions = append(versions, changed(r, versions[len(versions)-1]))
		}
		written := randomText(r, r.IntN(8))
		want := modelBlame(versions, written)
		blamed += len(want)
		isOK(t, "Blame", results(house.Blame(versions, written)), want)
		g, h := versions[0], versions[len(versions)-1]
		suspects := modelSuspects(g, h, written)
		suspected += len(suspects)
		if len(suspects) == 0 {
			innocent++
		}
		isOK(t, "Suspects", results(house.Suspects(g, h, written)), suspects)
		isOK(t, "Suspects", results(house.Suspects(h, g, written)), suspects)
	})
	if min(blamed, suspected, innocent) < 300 {
		t.Errorf("only %d blamed, %d suspected, %d innocent", blamed, suspected, innocent)
	}
}

func TestRandomPatch(t *testing.T) {
	costs := map[int]int{}
	none, differing := 0, 0
	forRandom(1500, func(r *rand.Rand) {
		g := randomGrammar(r)
		before, piece := randomText(r, r.IntN(3)), randomText(r, fromTo(r, 1, 3))
		written := before + piece + randomText(r, r.IntN(4))
		from, to, words := len(before), len(before)+len(piece), randomWords(r)
		corpus := manyOf(r.IntN(4), func() string { return someOf(r, written, randomText(r, r.IntN(6))) })
		want, found := modelPatch(g, written, from, to, words)
		if !found {
			none++
			isError(t, "Patch", results(house.Patch(g, written, from, to, words, corpus)), api.ErrNone)
			return
		}
		costs[want.Conventions[len(g.Conventions)].Cost]++
		var differ []int
		for i, text := range corpus {
			if modelDiffer(g, want, text) {
				differ = append(differ, i)
			}
		}
		differing += len(differ)
		isOK(t, "Patch", results(house.Patch(g, written, from, to, words, corpus)), want, differ)
	})
	if min(none, differing, len(costs)) < 100 || costs[0] < 20 || costs[1000000] < 20 {
		t.Errorf("only %d without a patch, %d differing, %v", none, differing, costs)
	}
}
