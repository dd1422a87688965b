package pitch

import "declaim/api"

// canShift reports whether adding d to neighboring values of a contour gives one that costs less.
func canShift(p api.Contour, contour []int, d int) bool {
	moved := movedCosts(p, contour, d)
	// bent returns by how much the cost grows if the difference before a frame grows, and whether it may.
	bent := func(frame, by int) (int, bool) {
		if frame == 0 || frame == len(contour) {
			return 0, true
		}
		old := contour[frame] - contour[frame-1]
		difference := old + by
		return p.Smooth * (difference*difference - old*old), between(difference, -p.Slope, p.Slope)
	}
	found := false
search:
	for from := range contour {
		growth, may := bent(from, d)
		for to := from; may && to < len(contour) && between(contour[to]+d, p.Low, p.High); to++ {
			growth += moved[to]
			if end, mayEnd := bent(to+1, -d); mayEnd && growth+end < 0 {
				found = true
				break search
			}
		}
	}
	return found
}

// movedCosts returns by how much the costs of the targets grow at each frame if d, 1 or -1, is added to its value.
func movedCosts(p api.Contour, contour []int, d int) []int {
	costs := make([]int, len(contour))
	for _, t := range p.Targets {
		costs[t.Time] += t.Weight * (2*d*(contour[t.Time]-t.Value) + 1)
	}
	return costs
}
