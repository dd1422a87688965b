package house_test

import (
	"math/big"
	"reflect"
	"slices"

	"declaim/api"
	"declaim/text"
)

// The chapter's definitions, word by word.

// modelBits are those of the generator, by numbers without bounds.
func modelBits(start, n int) []bool {
	modulus := new(big.Int).Lsh(big.NewInt(1), 64)
	x := big.NewInt(int64(start))
	var bits []bool
	for range n {
		x.Mul(x, big.NewInt(6364136223846793005))
		x.Add(x, big.NewInt(1442695040888963407))
		x.Mod(x, modulus)
		bits = append(bits, x.Bit(63) == 1)
	}
	return bits
}

func modelSign(bit bool) int {
	if bit {
		return 1
	}
	return -1
}

func modelChips(start, n int) []int {
	var chips []int
	for _, bit := range modelBits(start, n) {
		chips = append(chips, modelSign(bit))
	}
	return chips
}

func modelWord(m api.Stamp, message int) []bool {
	number := big.NewInt(int64(message))
	var bits []bool
	for i := m.Bits - 1; i >= 0; i-- {
		bits = append(bits, number.Bit(i) == 1)
	}
	return append(bits, modelBits(m.Key+1+message, 64)[48:64]...)
}

// modelChip is a chip of a period of a frame, before it gets the sign of the period.
func modelChip(m api.Stamp, chips []int, period, i int) int {
	if period == 0 {
		return chips[i]
	}
	return chips[m.Period+i]
}

// modelCorrelation is that of a period of a frame that begins at an offset.
func modelCorrelation(a []int, m api.Stamp, chips []int, offset, period int) int {
	sum := 0
	for i := range m.Period {
		sum += a[offset+period*m.Period+i] * modelChip(m, chips, period, i)
	}
	return sum
}

// modelMark tries one depth after the other.
func modelMark(a []int, m api.Stamp, message int) ([]int, int) {
	marked, depth := slices.Clone(a), 0
	chips := modelChips(m.Key, 2*m.Period)
	signs := append([]bool{true}, modelWord(m, message)...)
	for frame := range len(a) / frameOf(m) {
		for period, bit := range signs {
			sign, d := modelSign(bit), 0
			k := modelCorrelation(a, m, chips, frame*frameOf(m), period) * sign
			for k < m.Margin && k+d*m.Period < m.Margin {
				d++
			}
			for i := range m.Period {
				marked[frame*frameOf(m)+period*m.Period+i] += d * sign * modelChip(m, chips, period, i)
			}
			depth = max(depth, d)
		}
	}
	return marked, depth
}

func modelFinds(a []int, m api.Stamp, threshold int) []api.Find {
	chips := modelChips(m.Key, 2*m.Period)
	var finds []api.Find
	for offset := 0; offset+frameOf(m) <= len(a); offset++ {
		if message, found := modelMessage(a, m, chips, offset, threshold); found {
			finds = append(finds, api.Find{Offset: offset, Message: message})
		}
	}
	return finds
}

// modelMessage finds the message of a frame.
func modelMessage(a []int, m api.Stamp, chips []int, offset, threshold int) (int, bool) {
	if modelCorrelation(a, m, chips, offset, 0) < threshold {
		return 0, false
	}
	var signs []bool
	for period := 1; period < m.Bits+17; period++ {
		k := modelCorrelation(a, m, chips, offset, period)
		if k < threshold && k > -threshold {
			return 0, false
		}
		signs = append(signs, k >= threshold)
	}
	message := 0
	for i, bit := range signs[:m.Bits] {
		if bit {
			message |= 1 << (m.Bits - 1 - i)
		}
	}
	return message, slices.Equal(signs, modelWord(m, message))
}

// modelSums are those of all ways to choose signs.
func modelSums(x []int) []int {
	sums := []int{0}
	for _, n := range x {
		var longer []int
		for _, sum := range sums {
			longer = append(longer, sum+n, sum-n)
		}
		sums = longer
	}
	return sums
}

// modelWays counts the ways that are as they should be.
func modelWays(x []int, right func(sum int) bool) api.Chance {
	sums, of := modelSums(x), 0
	for _, sum := range sums {
		if right(sum) {
			of++
		}
	}
	return api.Chance{Of: of, All: len(sums)}
}

func modelAbs(n int) int { return max(n, -n) }

func modelFlips(x []int) api.Chance {
	total := 0
	for _, n := range x {
		total += n
	}
	return modelWays(x, func(sum int) bool { return modelAbs(sum) >= modelAbs(total) })
}

// modelSigns counts how many of n signs are positive.
func modelSigns(wins, n int) api.Chance {
	return modelWays(flat(n, 1), func(sum int) bool {
		positive := (sum + n) / 2
		return modelAbs(2*positive-n) >= modelAbs(2*wins-n)
	})
}

func modelQuotient(c api.Chance) *big.Rat { return big.NewRat(int64(c.Of), int64(c.All)) }

// modelHolm takes the least result that is left, and goes on as long as it is accepted.
func modelHolm(l []api.Chance, num, den int) []bool {
	accepted, taken := make([]bool, len(l)), make([]bool, len(l))
	for i := range l {
		next := -1
		for j := range l {
			if !taken[j] && (next < 0 || modelQuotient(l[j]).Cmp(modelQuotient(l[next])) < 0) {
				next = j
			}
		}
		if modelQuotient(l[next]).Cmp(big.NewRat(int64(num), int64(den*(len(l)-i)))) > 0 {
			break
		}
		taken[next], accepted[next] = true, true
	}
	return accepted
}

// modelBalanced counts for each two voices and places.
func modelBalanced(plan [][]int, n int) bool {
	if len(plan) == 0 || n < 1 || n > api.MaxVoices || len(plan) > 1000 {
		return false
	}
	for _, row := range plan {
		sorted := slices.Sorted(slices.Values(row))
		for voice := range n {
			if len(row) != n || sorted[voice] != voice {
				return false
			}
		}
	}
	places, pairs := map[[2]int]int{}, map[[2]int]int{}
	for _, row := range plan {
		for place, voice := range row {
			places[[2]int{place, voice}]++
			if place+1 < n {
				pairs[[2]int{voice, row[place+1]}]++
			}
		}
	}
	for a := range n {
		for b := range n {
			if places[[2]int{a, b}] != places[[2]int{0, 0}] || a != b && pairs[[2]int{a, b}] != pairs[[2]int{0, 1}] {
				return false
			}
		}
	}
	return true
}

// modelChanges finds the places first.
func modelChanges(a, b []int, distance int) []api.Change {
	var places []int
	for i := range max(len(a), len(b)) {
		if i >= len(a) || i >= len(b) || a[i] != b[i] {
			places = append(places, i)
		}
	}
	var groups []api.Change
	for from := 0; from < len(places); {
		to := from + 1
		for to < len(places) && places[to]-places[to-1] <= distance {
			to++
		}
		group := api.Change{From: places[from], To: places[to-1] + 1}
		for _, i := range places[from:to] {
			if i < len(a) && i < len(b) {
				group.Most = max(group.Most, modelAbs(a[i]-b[i]))
			}
		}
		groups = append(groups, group)
		from = to
	}
	return groups
}

// modelReading returns the words and the steps of the first reading.
func modelReading(g api.Grammar, written string) (words []string, steps []api.Step, found bool) {
	best, _, e := text.Best(g, written)
	for _, s := range best.Steps {
		words = append(words, s.Words...)
	}
	return words, best.Steps, e == api.OK
}

func modelDiffer(g, h api.Grammar, written string) bool {
	words, _, found := modelReading(g, written)
	others, _, has := modelReading(h, written)
	return found != has || !slices.Equal(words, others)
}

func modelBlame(versions []api.Grammar, written string) []int {
	var found []int
	for i := 1; i < len(versions); i++ {
		if modelDiffer(versions[i-1], versions[i], written) {
			found = append(found, i)
		}
	}
	return found
}

// modelAt returns the convention at an index, its empty lists all nil.
func modelAt(g api.Grammar, index int) *api.Convention {
	if index >= len(g.Conventions) {
		return nil
	}
	c := g.Conventions[index]
	c.Pattern, c.Says = append([]api.Atom(nil), c.Pattern...), append([]api.Say(nil), c.Says...)
	c.Before, c.After = append([]int(nil), c.Before...), append([]int(nil), c.After...)
	for i := range c.Says {
		c.Says[i].Words = append([]string(nil), c.Says[i].Words...)
	}
	return &c
}

func modelSuspects(g, h api.Grammar, written string) []int {
	_, steps, _ := modelReading(g, written)
	_, others, _ := modelReading(h, written)
	var found []int
	for _, s := range slices.Concat(steps, others) {
		if !reflect.DeepEqual(modelAt(g, s.Convention), modelAt(h, s.Convention)) {
			found = append(found, s.Convention)
		}
	}
	slices.Sort(found)
	return slices.Compact(found)
}

// modelPatched is a grammar with a convention more.
func modelPatched(g api.Grammar, written string, from, to int, words []string, cost int) api.Grammar {
	g.Conventions = append(slices.Clone(g.Conventions), api.Convention{
		Pattern: []api.Atom{{Text: written[from:to]}},
		Says:    []api.Say{{Kind: api.SayWords, Words: words}},
		Cost:    cost,
	})
	return g
}

// modelPatch finds the cost in a range by halving.
func modelPatch(g api.Grammar, written string, from, to int, words []string) (api.Grammar, bool) {
	works := func(cost int) bool {
		_, steps, _ := modelReading(modelPatched(g, written, from, to, words, cost), written)
		for _, s := range steps {
			if s.Convention == len(g.Conventions) && s.From == from && s.To == to {
				return true
			}
		}
		return false
	}
	var halve func(low, high int) int
	halve = func(low, high int) int {
		c := (low + high) / 2
		switch {
		case high-low <= 1:
			return low
		case works(c):
			return halve(c, high)
		}
		return halve(low, c)
	}
	if !works(0) {
		return api.Grammar{}, false
	}
	return modelPatched(g, written, from, to, words, halve(0, 1000001)), true
}
