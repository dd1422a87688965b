package tract_test

import (
	"math/big"

	"declaim/api"
)

// The chapter's definitions, word by word.

// towardZero divides without signs, and gives the quotient the sign of a.
func towardZero(a, b int) int {
	if a < 0 {
		return -towardZero(-a, b)
	}
	return (a - a%b) / b
}

func modelScatter(areas, waves []int) []int {
	s, sum := 0, 0
	for i := range areas {
		s += areas[i] * waves[i]
		sum += areas[i]
	}
	var leaving []int
	for _, x := range waves {
		leaving = append(leaving, towardZero(2*s-sum*x, sum))
	}
	return leaving
}

// modelTube is a shape with the waves of the main tube, and of the branch.
type modelTube struct {
	api.Shape
	f, b, nf, nb []int
	steps        int
}

func newModel(s api.Shape) *modelTube {
	m := &modelTube{Shape: s}
	m.f, m.b = make([]int, len(s.Areas)), make([]int, len(s.Areas))
	m.nf, m.nb = make([]int, len(s.Branch)), make([]int, len(s.Branch))
	return m
}

func (m *modelTube) step(feeds []api.Feed) api.Heard {
	next := newModel(m.Shape)
	for i := range len(m.Areas) - 1 {
		if len(m.Branch) > 0 && i == m.Joint {
			l := modelScatter([]int{m.Areas[i], m.Areas[i+1], m.Branch[0]}, []int{m.f[i], m.b[i+1], m.nb[0]})
			next.b[i], next.f[i+1], next.nf[0] = l[0], l[1], l[2]
		} else {
			l := modelScatter(m.Areas[i:i+2], []int{m.f[i], m.b[i+1]})
			next.b[i], next.f[i+1] = l[0], l[1]
		}
	}
	for i := range max(len(m.Branch), 1) - 1 {
		l := modelScatter(m.Branch[i:i+2], []int{m.nf[i], m.nb[i+1]})
		next.nb[i], next.nf[i+1] = l[0], l[1]
	}
	var heard api.Heard
	next.f[0] = towardZero(m.Glottis*m.b[0], 100)
	lips := len(m.Areas) - 1
	next.b[lips] = towardZero(-m.Lips*m.f[lips], 100)
	heard.Lips = m.f[lips] + next.b[lips]
	if nose := len(m.Branch) - 1; nose >= 0 {
		next.nb[nose] = towardZero(-m.Nose*m.nf[nose], 100)
		heard.Nose = m.nf[nose] + next.nb[nose]
	}
	for _, f := range feeds {
		next.f[f.Section] += f.Amount
	}
	m.f, m.b, m.nf, m.nb = next.f, next.b, next.nf, next.nb
	m.steps++
	return heard
}

func (m *modelTube) change(areas, branch []int) {
	smaller := func(waves, before, after []int) {
		for i := range waves {
			if after[i] > before[i] {
				waves[i] = towardZero(waves[i]*before[i], after[i])
			}
		}
	}
	smaller(m.f, m.Areas, areas)
	smaller(m.b, m.Areas, areas)
	smaller(m.nf, m.Branch, branch)
	smaller(m.nb, m.Branch, branch)
	m.Areas, m.Branch = areas, branch
}

func (m *modelTube) waves() [][]int { return [][]int{m.f, m.b, m.nf, m.nb} }

func (m *modelTube) energy() int {
	sum := 0
	for i, area := range m.Areas {
		sum += area * (m.f[i]*m.f[i] + m.b[i]*m.b[i])
	}
	for i, area := range m.Branch {
		sum += area * (m.nf[i]*m.nf[i] + m.nb[i]*m.nb[i])
	}
	return sum
}

func modelFollow(x, goal, speed int) int {
	d := goal - x
	move := towardZero(speed*d, 1000)
	switch {
	case move == 0 && d > 0:
		move = 1
	case move == 0 && d < 0:
		move = -1
	}
	return x + move
}

func modelAreas(rest []int, gestures []api.Gesture, times int) [][]int {
	all := make([][]int, times)
	for section, area := range rest {
		x, y := area, area
		for t := range times {
			goal, speed := area, 100
			for _, g := range gestures { // the last one remains
				if g.First <= section && section <= g.Last && g.Start <= t && t < g.End {
					goal, speed = g.Area, g.Speed
				}
			}
			x = modelFollow(x, goal, speed)
			y = modelFollow(y, x, speed)
			all[t] = append(all[t], y)
		}
	}
	return all
}

func modelPulses(stretches []api.Glottal) []int {
	var samples []int
	for _, g := range stretches {
		for range g.Periods {
			for j := range g.Length {
				sample := 0
				if j < g.Open {
					sample = towardZero(4*g.Height*j*(g.Open-j), g.Open*g.Open)
				}
				samples = append(samples, sample)
			}
		}
	}
	return samples
}

// modelNoise computes with numbers of any size.
func modelNoise(seed, height, n int) []int {
	var samples []int
	r := big.NewInt(int64(seed))
	for range n {
		r.Mul(r, big.NewInt(1664525)).Add(r, big.NewInt(1013904223)).Mod(r, big.NewInt(1<<32))
		part := new(big.Int).Div(r, big.NewInt(65536))
		samples = append(samples, int(part.Mod(part, big.NewInt(int64(2*height+1))).Int64())-height)
	}
	return samples
}

func modelUtter(s api.Shape, gestures []api.Gesture, glottis, noise []int, at int) []api.Heard {
	m := newModel(s)
	areas := modelAreas(s.Areas, gestures, len(glottis))
	var heard []api.Heard
	for t := range glottis {
		m.change(areas[t], s.Branch)
		amounts := map[int]int{0: glottis[t]}
		if t < len(noise) {
			amounts[at] += noise[t]
		}
		var feeds []api.Feed
		for section, amount := range amounts {
			feeds = append(feeds, feed(section, amount))
		}
		heard = append(heard, m.step(feeds))
	}
	return heard
}
