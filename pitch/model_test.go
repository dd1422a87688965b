package pitch_test

import (
	"math/big"
	"slices"

	"declaim/api"
)

// The chapter's definitions, word by word: with fractions, and by trying everything.

func fraction(a, b int) *big.Rat { return big.NewRat(int64(a), int64(b)) }

func product(factors ...*big.Rat) *big.Rat {
	all := fraction(1, 1)
	for _, f := range factors {
		all.Mul(all, f)
	}
	return all
}

func sumOf(a, b *big.Rat) *big.Rat { return new(big.Rat).Add(a, b) }

// nearest is the nearest integer, of two the one that is farther from 0.
func nearest(x *big.Rat) int {
	if x.Sign() < 0 {
		return -nearest(new(big.Rat).Neg(x))
	}
	half := sumOf(x, fraction(1, 2))
	return int(new(big.Int).Quo(half.Num(), half.Denom()).Int64())
}

func modelShape(shape []api.Knot, t int) *big.Rat {
	for i, k := range shape {
		if k.Time == t {
			return fraction(k.Value, 1)
		}
		if i > 0 && shape[i-1].Time < t && t < k.Time {
			before := shape[i-1]
			return sumOf(fraction(before.Value, 1), fraction((k.Value-before.Value)*(t-before.Time), k.Time-before.Time))
		}
	}
	return fraction(0, 1)
}

func modelValue(c api.Command, t int) int {
	return nearest(product(fraction(c.Height, 1000), modelShape(c.Shape, t-c.At)))
}

func modelCurve(n, base int, commands []api.Command) []int {
	var all []int
	for t := range n {
		sum := base
		for _, c := range commands {
			sum += modelValue(c, t)
		}
		all = append(all, sum)
	}
	return all
}

func modelIsContour(p api.Contour, v []int) bool {
	for i := range v {
		if v[i] < p.Low || v[i] > p.High || i > 0 && max(v[i]-v[i-1], v[i-1]-v[i]) > p.Slope {
			return false
		}
	}
	return len(v) == p.Frames
}

func modelCost(p api.Contour, v []int) int {
	cost := 0
	for _, t := range p.Targets {
		cost += t.Weight * (v[t.Time] - t.Value) * (v[t.Time] - t.Value)
	}
	for i := range len(v) - 1 {
		cost += p.Smooth * (v[i] - v[i+1]) * (v[i] - v[i+1])
	}
	return cost
}

// modelBest goes through all contours in their order.
func modelBest(p api.Contour) ([]int, int) {
	var best []int
	least := 0
	var extend func(v []int)
	extend = func(v []int) {
		if len(v) < p.Frames {
			for value := p.Low; value <= p.High; value++ {
				extend(append(slices.Clone(v), value))
			}
		} else if cost := modelCost(p, v); modelIsContour(p, v) && (best == nil || cost < least) {
			best, least = v, cost
		}
	}
	extend(nil)
	return best, least
}

// modelRows finds the best contour in tables of what the rest costs, without any order of values.
func modelRows(p api.Contour) ([]int, int) {
	rest := make([]map[int]int, p.Frames)
	for frame := p.Frames - 1; frame >= 0; frame-- {
		rest[frame] = map[int]int{}
		for value := p.Low; value <= p.High; value++ {
			for _, t := range p.Targets {
				if t.Time == frame {
					rest[frame][value] += t.Weight * (value - t.Value) * (value - t.Value)
				}
			}
			if frame < p.Frames-1 {
				next := modelNext(p, rest[frame+1], value)
				rest[frame][value] += rest[frame+1][next] + p.Smooth*(value-next)*(value-next)
			}
		}
	}
	first := p.Low
	for value := p.Low; value <= p.High; value++ {
		if rest[0][value] < rest[0][first] {
			first = value
		}
	}
	contour := []int{first}
	for frame := range p.Frames - 1 {
		contour = append(contour, modelNext(p, rest[frame+1], contour[frame]))
	}
	return contour, rest[0][first]
}

// modelNext is the best value after another one.
func modelNext(p api.Contour, rest map[int]int, value int) int {
	best := value
	cost := func(next int) int { return rest[next] + p.Smooth*(value-next)*(value-next) }
	for next := p.High; next >= p.Low; next-- {
		if max(value-next, next-value) <= p.Slope && cost(next) <= cost(best) {
			best = next
		}
	}
	return best
}

func modelSettled(p api.Contour, v []int) bool { return modelShift(p, v) == nil }

// modelShift is a contour that costs less because of one shift, or nil.
func modelShift(p api.Contour, v []int) []int {
	for from := range v {
		for to := from; to < len(v); to++ {
			for _, d := range []int{1, -1} {
				other := slices.Clone(v)
				for i := from; i <= to; i++ {
					other[i] += d
				}
				if modelIsContour(p, other) && modelCost(p, other) < modelCost(p, v) {
					return other
				}
			}
		}
	}
	return nil
}

func modelFrequency(cents int) int {
	k := cents / 1200
	s := (cents - 1200*k) / 100
	f := cents - 1200*k - 100*s
	semitones := fraction(api.Semitones[s]*(100-f)+api.Semitones[s+1]*f, 100)
	return nearest(product(fraction(27500, 1), semitones, fraction(1<<k, 1<<20)))
}

func modelPulses(rate int, frequencies []int) ([]int, int) {
	var pulses []int
	phase := 0
	for i, f := range frequencies {
		phase += f
		if phase >= 1000*rate {
			pulses = append(pulses, i)
			phase -= 1000 * rate
		}
	}
	return pulses, phase
}

func modelSing(notes []api.Note) []int {
	var all []int
	for at, n := range notes {
		for i := range n.Length {
			cents := 100 * n.Key
			if i < n.Glide && at > 0 {
				cents += nearest(fraction(100*(notes[at-1].Key-n.Key)*(n.Glide-i), n.Glide))
			}
			if i >= n.Delay {
				cents += modelVibrato(n, (i-n.Delay)%n.Period)
			}
			all = append(all, cents)
		}
	}
	return all
}

func modelVibrato(n api.Note, j int) int {
	if 4*j <= n.Period {
		return nearest(fraction(4*n.Depth*j, n.Period))
	}
	if n.Period < 4*j && 4*j <= 3*n.Period {
		return nearest(fraction(2*n.Depth*n.Period-4*n.Depth*j, n.Period))
	}
	return nearest(fraction(4*n.Depth*j-4*n.Depth*n.Period, n.Period))
}
