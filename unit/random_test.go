package unit_test

import (
	"math/rand/v2"
	"slices"
	"testing"

	"declaim/api"
	"declaim/unit"
)

// Random arguments have the results of the model.

func TestRandomCosts(t *testing.T) {
	usable := 0
	forRandom(2000, func(r *rand.Rand) {
		voice, w := randomVoice(r, 3), randomWeights(r)
		target := randomWanted(r)
		isOK(t, "JoinCost", results(unit.JoinCost(voice[0], voice[1], w)), modelJoinCost(voice[0], voice[1], w))
		if voice[2].Phone != target.Phone {
			isError(t, "TargetCost", results(unit.TargetCost(voice[2], target, w)), api.ErrNone)
			return
		}
		isOK(t, "TargetCost", results(unit.TargetCost(voice[2], target, w)), modelTargetCost(voice[2], target, w))
		usable++
	})
	if usable < 500 {
		t.Errorf("only %d usable", usable)
	}
}

func TestRandomCost(t *testing.T) {
	forRandom(1000, func(r *rand.Rand) {
		voice, w := randomVoice(r, fromTo(r, 1, 10)), randomWeights(r)
		targets := randomTargets(r, voice, r.IntN(10))
		units := randomSequence(r, voice, targets)
		isOK(t, "Cost", results(unit.Cost(voice, targets, w, units)), modelCost(voice, targets, w, units))
	})
}

func TestRandomChoose(t *testing.T) {
	seen := map[bool]int{}
	forRandom(1500, func(r *rand.Rand) {
		voice, w := randomVoice(r, fromTo(r, 1, 5)), randomWeights(r)
		targets := randomTargets(r, voice, r.IntN(5))
		if isChance(r, 20) {
			targets = append(targets, randomWanted(r))
		}
		n := someOf(r, 1, 2, 7, 50, fromTo(r, 1, 50))
		all := modelSequences(voice, targets, w)
		seen[len(all) > 0]++
		if len(all) == 0 {
			isError(t, "Choose", results(unit.Choose(voice, targets, w)), api.ErrNone)
			isError(t, "Best", results(unit.Best(voice, targets, w, n)), api.ErrNone)
			return
		}
		isOK(t, "Choose", results(unit.Choose(voice, targets, w)), all[0], modelCertificate(voice, targets, w))
		isOK(t, "Best", results(unit.Best(voice, targets, w, n)), all[:min(n, len(all))])
	})
	if min(seen[false], seen[true]) < 50 {
		t.Errorf("only %v", seen)
	}
}

// TestRandomLong: more units and targets than all sequences can be tried for.
func TestRandomLong(t *testing.T) {
	forRandom(150, func(r *rand.Rand) {
		voice, w := randomVoice(r, fromTo(r, 1, 15)), randomWeights(r)
		targets := randomTargets(r, voice, fromTo(r, 1, 20))
		n := someOf(r, 1, 10, 50)
		want := modelLists(voice, targets, w, n)
		isOK(t, "Best", results(unit.Best(voice, targets, w, n)), want)
		best, certificate, e := unit.Choose(voice, targets, w)
		isOK(t, "Choose", results(best, e), want[0])
		isSame(t, "Verify", unit.Verify(voice, targets, w, best.Cost, certificate), true)
		isSame(t, "Verify with more", unit.Verify(voice, targets, w, best.Cost+1, certificate), false)
	})
}

// TestRandomTies: many sequences cost the same.
func TestRandomTies(t *testing.T) {
	forRandom(150, func(r *rand.Rand) {
		voice := slices.Repeat(voiceE()[:2], fromTo(r, 1, 6))
		for i := range voice {
			voice[i].Pitch += r.IntN(2)
			voice[i].From, voice[i].To = 0, 1
		}
		targets := manyOf(fromTo(r, 1, 12), func() api.Wanted { return wanted(someOf(r, "a", "b"))[0] })
		w, n := api.Weights{Pitch: r.IntN(2), Join: r.IntN(2)}, fromTo(r, 1, 50)
		if len(voice) == 2 {
			voice = append(voice, voice...)
		}
		isOK(t, "Best", results(unit.Best(voice, targets, w, n)), modelLists(voice, targets, w, n))
	})
}

// TestRandomVerify: certificates that hold, nearly hold, and have any numbers.
func TestRandomVerify(t *testing.T) {
	seen := map[bool]int{}
	forRandom(6000, func(r *rand.Rand) {
		voice, w := randomVoice(r, fromTo(r, 1, 5)), randomWeights(r)
		targets := randomTargets(r, voice, r.IntN(5))
		best, certificate, e := unit.Choose(voice, targets, w)
		isSame(t, "error", e, api.OK)
		cost := best.Cost + someOf(r, 0, 0, 0, 1, -1, -100)
		if isChance(r, 5) {
			cost = someOf(r, least, greatest)
		}
		lower := someOf(r, 0, 0, 1, 5)
		for _, numbers := range certificate {
			for u := range numbers {
				if isChance(r, 10) {
					numbers[u] = someOf(r, numbers[u]+1, numbers[u]-1, 0, least, least+1, greatest-1, greatest)
				}
				if numbers[u] > least+100 {
					numbers[u] -= lower
				}
			}
		}
		if isChance(r, 5) {
			targets = append(targets, randomWanted(r))
			certificate = append(certificate, make([]int, len(voice)))
		}
		want := modelHolds(voice, targets, w, cost, certificate)
		seen[want]++
		isSame(t, "Verify", unit.Verify(voice, targets, w, cost, certificate), want)
	})
	if min(seen[false], seen[true]) < 1000 {
		t.Errorf("only %v", seen)
	}
}

func TestRandomCut(t *testing.T) {
	none := 0
	forRandom(2000, func(r *rand.Rand) {
		parts, most := someOf(r, 1, 2, 5), someOf(r, 1, 1, 4, 10000)
		frames, prototypes := randomVectors(r, r.IntN(12), parts, most), randomVectors(r, r.IntN(6), parts, most)
		shortest := fromTo(r, 1, 3)
		lengths, cost, some := modelCut(frames, prototypes, shortest)
		if !some {
			isError(t, "Cut", results(unit.Cut(frames, prototypes, shortest)), api.ErrNone)
			none++
			return
		}
		isOK(t, "Cut", results(unit.Cut(frames, prototypes, shortest)), lengths, cost)
		isOK(t, "CutCost", results(unit.CutCost(frames, prototypes, shortest, lengths)), cost)
		if len(lengths) > 1 && lengths[0] > shortest {
			lengths[0]--
			lengths[len(lengths)-1]++
			isOK(t, "CutCost of another one", results(unit.CutCost(frames, prototypes, shortest, lengths)), modelCutCost(frames, prototypes, lengths))
		}
	})
	if none < 200 || none > 1500 {
		t.Errorf("%d without a cut", none)
	}
}

func TestRandomCover(t *testing.T) {
	none, better := 0, 0
	forRandom(2000, func(r *rand.Rand) {
		n := someOf(r, fromTo(r, 1, 12), fromTo(r, 1, 12), fromTo(r, 60, 70))
		sets := randomSets(r, n, someOf(r, r.IntN(9), fromTo(r, 6, 10)))
		cover, together, some := modelGreedy(n, sets)
		if !some {
			none++
			isError(t, "Greedy", results(unit.Greedy(n, sets)), api.ErrNone)
			isError(t, "Least", results(unit.Least(n, sets)), api.ErrNone)
			if modelMost(sets) <= 12 {
				isError(t, "Price", results(unit.Price(n, sets)), api.ErrNone)
			}
			return
		}
		fewest, _ := modelLeast(n, sets)
		isOK(t, "Greedy", results(unit.Greedy(n, sets)), cover)
		isOK(t, "Least", results(unit.Least(n, sets)), fewest)
		if len(fewest) < len(cover) {
			better++
		}
		if m := modelMost(sets); m > 12 {
			isError(t, "Price", results(unit.Price(n, sets)), api.ErrArg)
		} else {
			for number := range together {
				together[number] = 27720 / together[number]
			}
			isOK(t, "Price", results(unit.Price(n, sets)), together, modelScale(m))
		}
	})
	if none < 100 || better < 100 {
		t.Errorf("%d without a cover, %d with a better one", none, better)
	}
}

func TestRandomProves(t *testing.T) {
	seen := map[bool]int{}
	forRandom(3000, func(r *rand.Rand) {
		n := someOf(r, 0, 1, 3, 6, 64, 65)
		sets := [][]int{nil}
		if n > 0 {
			sets = randomSets(r, n, r.IntN(6))
		}
		most := someOf(r, 1, 5, 1000)
		prices := manyOf(n, func() int { return r.IntN(most + 1) })
		scale := fromTo(r, 1, 2*most*max(1, n/3))
		bound, proved := modelProves(sets, prices, scale)
		seen[proved]++
		isSame(t, "Proves", results(unit.Proves(n, sets, prices, scale)), results(bound, proved))
	})
	if min(seen[false], seen[true]) < 500 {
		t.Errorf("only %v", seen)
	}
}
