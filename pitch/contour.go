package pitch

import "declaim/api"

func cost(p api.Contour, contour []int) int {
	sum := 0
	for _, t := range p.Targets {
		off := contour[t.Time] - t.Value
		sum += t.Weight * off * off
	}
	for i := 1; i < len(contour); i++ {
		difference := contour[i] - contour[i-1]
		sum += p.Smooth * difference * difference
	}
	return sum
}

// A candidate is a value, as its distance from Low, and the least cost of the rest of a contour that has it.
type candidate struct {
	value int
	cost  int
}

// costFrom returns what the rest costs after another value.
func (c candidate) costFrom(value, smooth int) int {
	return c.cost + smooth*(c.value-value)*(c.value-value)
}

// A row tells for each value of a frame, as its distance from Low, what the rest costs at least, and which value is next then.
type row struct {
	costs []int
	next  []int
}

// best fills rows from the last frame to the first one, so that a contour can be read from its front: the least value each time leads to the first of several.
func best(p api.Contour) []int {
	rows := newRows(p)
	for i := p.Frames - 2; i >= 0; i-- {
		addRest(p, rows[i], rows[i+1])
	}
	value := 0
	for v, cost := range rows[0].costs {
		if cost < rows[0].costs[value] {
			value = v
		}
	}
	contour := make([]int, p.Frames)
	for i, row := range rows {
		contour[i] = p.Low + value
		value = row.next[value]
	}
	return contour
}

// newRows returns rows that count the targets alone.
func newRows(p api.Contour) []row {
	width := p.High - p.Low + 1
	costs, next := make([]int, p.Frames*width), make([]int, p.Frames*width)
	rows := make([]row, p.Frames)
	for i := range rows {
		from, to := i*width, (i+1)*width
		rows[i] = row{costs: costs[from:to:to], next: next[from:to:to]}
	}
	for _, t := range p.Targets {
		for v := range width {
			off := p.Low + v - t.Value
			rows[t.Time].costs[v] += t.Weight * off * off
		}
	}
	return rows
}

// addRest adds to the costs of a row those of the next one. The costs of each row are convex: so a candidate that costs more than the one behind it does so for all
// greater values, too, and need not be seen again; and if it does not cost more, none behind it costs less.
func addRest(p api.Contour, here, after row) {
	var window queue[candidate]
	entered := 0
	for v := range here.costs {
		for ; entered < len(after.costs) && entered <= v+p.Slope; entered++ {
			window.push(candidate{value: entered, cost: after.costs[entered]})
		}
		for window.at(0).value < v-p.Slope || window.size() > 1 && window.at(1).costFrom(v, p.Smooth) < window.at(0).costFrom(v, p.Smooth) {
			window.drop()
		}
		here.costs[v] += window.at(0).costFrom(v, p.Smooth)
		here.next[v] = window.at(0).value
	}
}
