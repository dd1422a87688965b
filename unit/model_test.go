package unit_test

import (
	"cmp"
	"math/big"
	"math/bits"
	"slices"

	"declaim/api"
)

// The chapter's definitions, word by word, by trying everything.

func modelApart(a, b int) int {
	if a < b {
		return b - a
	}
	return a - b
}

func modelDistance(a, b []int) int {
	sum := 0
	for i := range a {
		sum += modelApart(a[i], b[i])
	}
	return sum
}

func modelTargetCost(u api.Unit, t api.Wanted, w api.Weights) int {
	cost := 0
	if u.Before != t.Before {
		cost += w.Beside
	}
	if u.After != t.After {
		cost += w.Beside
	}
	if u.Pitch != 0 && t.Pitch != 0 {
		cost += w.Pitch * modelApart(u.Pitch, t.Pitch)
	}
	if u.Pitch == 0 && t.Pitch != 0 || u.Pitch != 0 && t.Pitch == 0 {
		cost += 2000 * w.Pitch
	}
	return cost + w.Length*modelApart(u.Length, t.Length)
}

func modelFollows(b, a api.Unit) bool { return b.Take == a.Take && b.From == a.To }

func modelJoinCost(a, b api.Unit, w api.Weights) int {
	if modelFollows(b, a) {
		return 0
	}
	return w.Join * modelDistance(a.End, b.Begin)
}

func modelCost(voice []api.Unit, t []api.Wanted, w api.Weights, units []int) int {
	cost := 0
	for i, u := range units {
		cost += modelTargetCost(voice[u], t[i], w)
	}
	for i := range len(units) - 1 {
		cost += modelJoinCost(voice[units[i]], voice[units[i+1]], w)
	}
	return cost
}

func modelCompare(a, b api.Sequence) int {
	return cmp.Or(cmp.Compare(a.Cost, b.Cost), slices.Compare(a.Units, b.Units))
}

// modelSequences are all of them, in order.
func modelSequences(voice []api.Unit, t []api.Wanted, w api.Weights) []api.Sequence {
	var all []api.Sequence
	var extend func(units []int)
	extend = func(units []int) {
		if len(units) == len(t) {
			all = append(all, api.Sequence{Units: units, Cost: modelCost(voice, t, w, units)})
			return
		}
		for u := range voice {
			if voice[u].Phone == t[len(units)].Phone {
				extend(append(slices.Clone(units), u))
			}
		}
	}
	extend(nil)
	slices.SortFunc(all, modelCompare)
	return all
}

// modelCertificate has the least cost of all sequences for the rest of the targets.
func modelCertificate(voice []api.Unit, t []api.Wanted, w api.Weights) [][]int {
	var certificate [][]int
	for i := range t {
		numbers := make([]int, len(voice))
		known := map[int]bool{}
		for _, s := range modelSequences(voice, t[i:], w) {
			if u := s.Units[0]; !known[u] {
				known[u], numbers[u] = true, s.Cost
			}
		}
		certificate = append(certificate, numbers)
	}
	return certificate
}

// modelLists finds the first sequences by keeping the first ones for the rest of the targets, by their first units.
func modelLists(voice []api.Unit, t []api.Wanted, w api.Weights, n int) []api.Sequence {
	rests := []api.Sequence{{}}
	for i := len(t) - 1; i >= 0; i-- {
		var longer []api.Sequence
		for u := range voice {
			if voice[u].Phone != t[i].Phone {
				continue
			}
			var own []api.Sequence
			for _, rest := range rests {
				cost := rest.Cost + modelTargetCost(voice[u], t[i], w)
				if len(rest.Units) > 0 {
					cost += modelJoinCost(voice[u], voice[rest.Units[0]], w)
				}
				own = append(own, api.Sequence{Units: append([]int{u}, rest.Units...), Cost: cost})
			}
			slices.SortFunc(own, modelCompare)
			longer = append(longer, own[:min(n, len(own))]...)
		}
		rests = longer
	}
	slices.SortFunc(rests, modelCompare)
	return rests[:min(n, len(rests))]
}

// modelHolds is about a certificate with a list of as many numbers as there are units for each target.
func modelHolds(voice []api.Unit, t []api.Wanted, w api.Weights, cost int, certificate [][]int) bool {
	sum := func(a, b int) *big.Int { return new(big.Int).Add(big.NewInt(int64(a)), big.NewInt(int64(b))) }
	first := false
	for i, target := range t {
		some := false
		for u := range voice {
			if voice[u].Phone != target.Phone {
				continue
			}
			some = true
			if i == 0 && cost > certificate[0][u] {
				return false
			}
			number, own := certificate[i][u], modelTargetCost(voice[u], target, w)
			if i == len(t)-1 && number > own {
				return false
			}
			for v := range voice {
				if i < len(t)-1 && voice[v].Phone == t[i+1].Phone &&
					big.NewInt(int64(number)).Cmp(sum(certificate[i+1][v], own+modelJoinCost(voice[u], voice[v], w))) > 0 {
					return false
				}
			}
		}
		if !some {
			return false
		}
		first = true
	}
	return first || cost <= 0
}

// modelCut goes through all cuts in lexicographic order of their lengths; false if there are none.
func modelCut(frames, prototypes [][]int, shortest int) ([]int, int, bool) {
	var best []int
	lowest, some := 0, false
	var extend func(lengths []int, used int)
	extend = func(lengths []int, used int) {
		if len(lengths) == len(prototypes) {
			if cost := modelCutCost(frames, prototypes, lengths); used == len(frames) && (!some || cost < lowest) {
				best, lowest, some = lengths, cost, true
			}
			return
		}
		for length := shortest; used+length <= len(frames); length++ {
			extend(append(slices.Clone(lengths), length), used+length)
		}
	}
	extend(nil, 0)
	return best, lowest, some
}

func modelCutCost(frames, prototypes [][]int, lengths []int) int {
	cost, at := 0, 0
	for phone, length := range lengths {
		for range length {
			cost += modelDistance(frames[at], prototypes[phone])
			at++
		}
	}
	return cost
}

// modelFresh are the different numbers of a set that are not covered.
func modelFresh(set []int, covered map[int]bool) map[int]bool {
	fresh := map[int]bool{}
	for _, number := range set {
		if !covered[number] {
			fresh[number] = true
		}
	}
	return fresh
}

// modelGreedy returns the greedy cover, and how many numbers were covered together with each number; false if there is no cover.
func modelGreedy(n int, sets [][]int) ([]int, []int, bool) {
	covered, together := map[int]bool{}, make([]int, n)
	var cover []int
	for len(covered) < n {
		best := 0
		for i := range sets {
			if len(modelFresh(sets[i], covered)) > len(modelFresh(sets[best], covered)) {
				best = i
			}
		}
		if len(sets) == 0 || len(modelFresh(sets[best], covered)) == 0 {
			return nil, nil, false
		}
		fresh := modelFresh(sets[best], covered)
		for number := range fresh {
			covered[number], together[number] = true, len(fresh)
		}
		cover = append(cover, best)
	}
	slices.Sort(cover)
	return cover, together, true
}

// modelLeast goes through all lists of sets; false if there is no cover.
func modelLeast(n int, sets [][]int) ([]int, bool) {
	var best []int
	some := false
	for chosen := range uint(1) << len(sets) {
		if some && bits.OnesCount(chosen) > len(best) {
			continue
		}
		var cover []int
		covered := map[int]bool{}
		for i := range sets {
			if chosen>>i&1 == 1 {
				cover = append(cover, i)
				for _, number := range sets[i] {
					covered[number] = true
				}
			}
		}
		if len(covered) == n && (!some || cmp.Or(len(cover)-len(best), slices.Compare(cover, best)) < 0) {
			best, some = cover, true
		}
	}
	return best, some
}

// modelMost is the greatest number of different elements of a set.
func modelMost(sets [][]int) int {
	most := 1
	for _, set := range sets {
		most = max(most, len(modelFresh(set, nil)))
	}
	return most
}

func modelScale(m int) int {
	scale := 0
	for k := 1; k <= m; k++ {
		scale += 27720 / k
	}
	return scale
}

// modelProves is about numbers, prices and a scale in their ranges.
func modelProves(sets [][]int, prices []int, scale int) (int, bool) {
	for _, set := range sets {
		sum := 0
		for number := range modelFresh(set, nil) {
			sum += prices[number]
		}
		if sum > scale {
			return 0, false
		}
	}
	bound, sum := 0, 0
	for _, price := range prices {
		sum += price
	}
	for bound*scale < sum {
		bound++
	}
	return bound, true
}
