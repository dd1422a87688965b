package join

import "math"

// mismatch returns that of two parts that overlap.
func mismatch(x, y []int) int { return squares(differences(x, y)) }

// bestLag returns the best lag of those up to most, and its mismatch; at each of them, as much of a wave is left as overlaps with the end of what is before it.
func bestLag(end, wave []int, most int) (int, int) {
	best, least := 0, math.MaxInt
lags:
	for lag := range most + 1 {
		sum := 0
		for i, sample := range wave[lag : lag+len(end)] {
			difference := end[i] - sample
			sum += difference * difference
			if sum >= least {
				continue lags
			}
		}
		best, least = lag, sum
	}
	return best, least
}

// fade writes the crossfade of two lists of the same length.
func fade(to, x, y []int) {
	n := len(to)
	for i := range to {
		to[i] = rounded((n-i)*x[i]+(i+1)*y[i], n+1)
	}
}

func joined(a, b []int, n, k int) []int {
	from, to := len(a)-n, len(a)
	wave := make([]int, to+len(b)-n-k)
	copy(wave[:from:from], a)
	fade(wave[from:to:to], a[from:], b[k:k+n])
	copy(wave[to:], b[k+n:])
	return wave
}
