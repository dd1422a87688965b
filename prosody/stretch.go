package prosody

import (
	"cmp"
	"container/heap"
	"math"
	"slices"
)

// spring is a duration that is stretched.
type spring struct {
	index int
	over  int // by how much it is longer than its duration
	stiff int
}

// springs are durations that have been stretched to lengths.
func springs(durations, stiff, lengths []int) []spring {
	all := make([]spring, len(durations))
	for i := range all {
		all[i] = spring{index: i, over: lengths[i] - durations[i], stiff: stiff[i]}
	}
	return all
}

// price is by how much the next millisecond makes the sum of squares greater.
func (s spring) price() int { return s.stiff * (2*s.over + 1) }

// gain is by how much the sum of squares becomes less without the last millisecond.
func (s spring) gain() int { return s.stiff * (2*s.over - 1) }

// compare orders springs as they are lengthened; of those with the same price, the later one is first, so that the list of lengths is the first one in lexicographic order.
func (s spring) compare(other spring) int {
	return cmp.Or(cmp.Compare(s.price(), other.price()), cmp.Compare(other.index, s.index))
}

// queue gives out the next millisecond.
type queue interface {
	heap.Interface
	lengthen() (index int)
}

// springHeap is sorted by container/heap.
type springHeap []spring

func (h springHeap) Len() int           { return len(h) }
func (h springHeap) Less(i, j int) bool { return h[i].compare(h[j]) < 0 }
func (h springHeap) Swap(i, j int)      { h[i], h[j] = h[j], h[i] }
func (h *springHeap) Push(s any)        { *h = append(*h, s.(spring)) }

func (h *springHeap) Pop() any {
	old := *h
	s := old[len(old)-1]
	*h = old[:len(old)-1]
	return s
}

// lengthen gives the next millisecond to the spring that it costs least.
func (h *springHeap) lengthen() int {
	first := &(*h)[0]
	first.over++
	index := first.index
	heap.Fix(h, 0)
	return index
}

// stretch lengthens the least lengths by some milliseconds, if there are springs to take them.
func stretch(durations, least, stiff []int, milliseconds int) []int {
	all, lengths := springHeap(springs(durations, stiff, least)), slices.Clone(least)
	var q queue = &all
	heap.Init(q)
	for range milliseconds {
		lengths[q.lengthen()]++
	}
	return lengths
}

// settled compares the greatest gain with the least price; they are never those of the same spring if the gain is greater.
func settled(durations, least, stiff, lengths []int) bool {
	gain, price := math.MinInt, math.MaxInt
	for i, s := range springs(durations, stiff, lengths) {
		price = min(price, s.price())
		if lengths[i] > least[i] {
			gain = max(gain, s.gain())
		}
	}
	return gain <= price
}
