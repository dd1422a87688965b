package house

import (
	"cmp"
	"maps"
	"math/bits"
	"slices"

	"declaim/api"
)

// signedSums counts the ways to choose signs by the sums that they have.
func signedSums(x []int) map[int]int {
	ways := map[int]int{0: 1}
	for _, n := range x {
		longer := make(map[int]int, 2*len(ways))
		for sum, count := range ways {
			longer[sum+n] += count
			longer[sum-n] += count
		}
		ways = longer
	}
	return ways
}

// waysAtLeast counts the ways to choose signs whose sum is at least a threshold. Each half of the integers has few sums enough to be listed.
func waysAtLeast(x []int, threshold int) int {
	left, right := signedSums(x[:len(x)/2]), signedSums(x[len(x)/2:])
	down := slices.Sorted(maps.Keys(right))
	slices.Reverse(down)
	// The greater a sum is at the left, the smaller ones at the right are enough.
	count, enough, next := 0, 0, 0
	for _, sum := range slices.Sorted(maps.Keys(left)) {
		for next < len(down) && sum+down[next] >= threshold {
			enough += right[down[next]]
			next++
		}
		count += left[sum] * enough
	}
	return count
}

// chanceOf is so many ways among all ways to choose signs.
func chanceOf(x []int, of int) api.Chance { return api.Chance{Of: of, All: 1 << len(x)} }

func flips(x []int) api.Chance {
	total := 0
	for _, n := range x {
		total += n
	}
	if total == 0 {
		return chanceOf(x, 1<<len(x))
	}
	// With all signs changed, a sum is as far from 0 at the other side.
	return chanceOf(x, 2*waysAtLeast(x, max(total, -total)))
}

// accepted is Holm's procedure.
func accepted(l []api.Chance, num, den int) []bool {
	are := make([]bool, len(l))
	for i, result := range orderOf(l, compareChances) {
		if c := l[result]; c.Of*den*(len(l)-i) > num*c.All {
			break
		}
		are[result] = true
	}
	return are
}

// orderOf returns the indexes of elements in increasing order, of equal ones the first one first.
func orderOf[E any](elements []E, compare func(a, b E) int) []int {
	order := make([]int, len(elements))
	for i := range order {
		order[i] = i
	}
	slices.SortStableFunc(order, func(i, j int) int { return compare(elements[i], elements[j]) })
	return order
}

// compareChances compares quotients by products, which need more than 64 bits.
func compareChances(a, b api.Chance) int {
	high, low := bits.Mul64(uint64(a.Of), uint64(b.All))
	otherHigh, otherLow := bits.Mul64(uint64(b.Of), uint64(a.All))
	return cmp.Or(cmp.Compare(high, otherHigh), cmp.Compare(low, otherLow))
}
