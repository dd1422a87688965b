package unit

import "math"

// never is more than all frames cost.
const never = math.MaxInt / 2

// cut returns the lengths of the pieces of the cut, and its cost; there are enough frames, and none without phones. A place of a phone is how many frames more are before it than must be.
func cut(frames, prototypes [][]int, least int) ([]int, int) {
	free := len(frames) - len(prototypes)*least
	ends := newTable(len(prototypes), free+1)
	rests := make([]int, free+1)
	for place := range free {
		rests[place] = never
	}
	for phone := len(prototypes) - 1; phone >= 0; phone-- {
		from := phone * least
		addPiece(sums(frames[from:from+free+least], prototypes[phone]), rests, ends[phone])
	}
	lengths := make([]int, len(prototypes))
	place := 0
	for phone := range lengths {
		end := ends[phone][place]
		lengths[phone] = least + end - place
		place = end
	}
	return lengths, rests[0]
}

// sums returns how far the first frames are from a prototype, for each number of them.
func sums(frames [][]int, prototype []int) []int {
	sums := make([]int, len(frames)+1)
	for i, frame := range frames {
		sums[i+1] = sums[i] + distance(frame, prototype)
	}
	return sums
}

// addPiece adds a phone to what the phones behind it cost at least by their places, and finds the place of the next phone that is best for each of its own: the least one, so that its piece is the shortest one.
func addPiece(sums, rests, ends []int) {
	least := len(sums) - len(rests)
	best, end := math.MaxInt, 0
	for place := len(rests) - 1; place >= 0; place-- {
		if cost := sums[place+least] + rests[place]; cost <= best {
			best, end = cost, place
		}
		rests[place], ends[place] = best-sums[place], end
	}
}

// cutCost is the cost of a cut.
func cutCost(frames, prototypes [][]int, lengths []int) int {
	cost, from := 0, 0
	for phone, length := range lengths {
		for _, frame := range frames[from : from+length] {
			cost += distance(frame, prototypes[phone])
		}
		from += length
	}
	return cost
}
