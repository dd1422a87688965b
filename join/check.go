package join

import (
	"slices"

	"declaim/api"
)

const (
	lowest    = -32768 // sample
	highest   = 32767
	mostWidth = 1000
	mostGain  = 1000000 // and the greatest denominator of a gain
	mostRatio = 1000    // of both numbers of a ratio
)

func between(n, least, most int) bool { return least <= n && n <= most }

func waveLong(wave []int) bool { return len(wave) > api.MaxWave }

func waveWrong(wave []int) bool {
	return slices.ContainsFunc(wave, func(sample int) bool { return !between(sample, lowest, highest) })
}

// check checks waves; right tells about all the other arguments of a call.
func check(right bool, waves ...[]int) api.Errno {
	switch {
	case slices.ContainsFunc(waves, waveLong):
		return api.ErrLong
	case !right || slices.ContainsFunc(waves, waveWrong):
		return api.ErrArg
	}
	return api.OK
}

func checkMarked(right bool, m api.Marked) api.Errno {
	return check(right && marksRight(m.Marks, len(m.Samples)), m.Samples)
}

func marksRight(marks []int, length int) bool {
	first := 0
	for _, mark := range marks {
		if !between(mark, first, length) {
			return false
		}
		first = mark + 1
	}
	return len(marks) >= 2
}

// overlaps reports whether the mismatch of two waves exists.
func overlaps(a, b []int, n, k int) bool {
	return between(n, 1, len(a)) && between(k, 0, len(b)-n)
}

func ratioRight(num, den int) bool {
	return between(num, 1, mostRatio) && between(den, 1, mostRatio) && num <= api.MaxRatio*den && den <= api.MaxRatio*num
}
