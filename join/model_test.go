package join_test

import (
	"math/big"
	"slices"

	"declaim/api"
)

// The chapter's definitions, word by word, and by trying everything.

// nearest divides with rounding: of two integers that are equally near, it is the one that is farther from 0.
func nearest(a, b int) int {
	if a < 0 {
		return -nearest(-a, b)
	}
	return halvesUp(a, b)
}

// halvesUp divides what is not below 0.
func halvesUp(a, b int) int {
	if rest := a % b; rest >= b-rest {
		return a/b + 1
	}
	return a / b
}

func modelClip(n int) int {
	switch {
	case n > highest:
		return highest
	case n < lowest:
		return lowest
	}
	return n
}

func modelStep(a []int) int {
	step := 0
	for i := 1; i < len(a); i++ {
		step = max(step, a[i]-a[i-1], a[i-1]-a[i])
	}
	return step
}

func modelLoudness(a []int) int {
	sum := 0
	for _, sample := range a {
		sum += sample * sample
	}
	return int(new(big.Int).Sqrt(big.NewInt(int64(sum / len(a)))).Int64())
}

func modelMismatch(a, b []int, n, k int) int {
	sum, s := 0, len(a)-n
	for i := range n {
		sum += (a[s+i] - b[k+i]) * (a[s+i] - b[k+i])
	}
	return sum
}

func modelExists(a, b []int, n, k int) bool { return n >= 1 && n <= len(a) && 0 <= k && k <= len(b)-n }

// modelLag tries all lags; false if none exists.
func modelLag(a, b []int, n, r int) (int, int, bool) {
	best, smallest, found := 0, 0, false
	for k := 0; k <= r && k <= len(b); k++ {
		if modelExists(a, b, n, k) {
			if m := modelMismatch(a, b, n, k); !found || m < smallest {
				best, smallest, found = k, m, true
			}
		}
	}
	return best, smallest, found
}

func modelFade(x, y []int) []int {
	var faded []int
	n := len(x)
	for i := range x {
		faded = append(faded, nearest((n-i)*x[i]+(i+1)*y[i], n+1))
	}
	return faded
}

func modelJoin(a, b []int, n, k int) []int {
	s := len(a) - n
	return slices.Concat(a[:s], modelFade(a[s:], b[k:k+n]), b[k+n:])
}

func modelChain(n, r int, waves [][]int) ([]int, []int, api.Errno) {
	chain, begins := waves[0], []int{0}
	for _, wave := range waves[1:] {
		k, _, found := modelLag(chain, wave, n, r)
		if !found {
			return nil, nil, api.ErrNone
		}
		begins = append(begins, len(chain)-n)
		if chain = modelJoin(chain, wave, n, k); len(chain) > api.MaxWave {
			return nil, nil, api.ErrLong
		}
	}
	return chain, begins, api.OK
}

// modelBuilt has a wave's head and tail, and other periods.
func modelBuilt(m api.Marked, periods [][]int) api.Marked {
	samples := slices.Clone(m.Samples[:m.Marks[0]])
	marks := []int{len(samples)}
	for _, period := range periods {
		samples = append(samples, period...)
		marks = append(marks, len(samples))
	}
	return api.Marked{Samples: append(samples, m.Samples[m.Marks[len(m.Marks)-1]:]...), Marks: marks}
}

func modelStretch(m api.Marked, num, den int) api.Marked {
	old := periodsOf(m)
	var periods [][]int
	number := max(1, halvesUp(len(old)*num, den))
	for j := range number {
		periods = append(periods, old[j*len(old)/number])
	}
	return modelBuilt(m, periods)
}

func modelTranspose(m api.Marked, num, den int) api.Marked {
	var periods [][]int
	for _, old := range periodsOf(m) {
		var period []int
		for i := range max(1, halvesUp(len(old)*den, num)) {
			if i < len(old) {
				period = append(period, old[i])
			} else {
				period = append(period, old[len(old)-1])
			}
		}
		periods = append(periods, period)
	}
	return modelBuilt(m, periods)
}

func modelSing(m api.Marked, num, den int) api.Marked {
	return modelStretch(modelTranspose(m, num, den), num, den)
}

func modelSmooth(m api.Marked, w int) api.Marked {
	s := slices.Clone(m.Samples)
	for _, p := range m.Marks[1 : len(m.Marks)-1] {
		if p-w < 0 || p+w > len(s) {
			continue
		}
		d := s[p] - s[p-1]
		for i := range w {
			s[p-1-i] += nearest(d*(w-i), 2*w+1)
			s[p+i] -= nearest(d*(w-i), 2*w+1)
		}
		for i := range s {
			s[i] = modelClip(s[i])
		}
	}
	return api.Marked{Samples: s, Marks: m.Marks}
}

func modelGain(a []int, num, den int) ([]int, int) {
	var wave []int
	clips := 0
	for _, sample := range a {
		n := nearest(sample*num, den)
		if n < lowest || n > highest {
			clips++
		}
		wave = append(wave, modelClip(n))
	}
	return wave, clips
}

func modelClips(a []int, num, den int) bool {
	return slices.ContainsFunc(a, func(sample int) bool { return nearest(sample*num, den) != modelClip(nearest(sample*num, den)) })
}

// modelLoudest tries all gains.
func modelLoudest(a []int, den int) int {
	num := 1000000
	for modelClips(a, num, den) {
		num--
	}
	return num
}

// modelLevel tries all gains.
func modelLevel(a []int, loudness int) []int {
	for num := 1000000; ; num-- {
		if modelClips(a, num, 1000) {
			continue
		}
		if wave, _ := modelGain(a, num, 1000); modelLoudness(wave) <= loudness {
			return wave
		}
	}
}
