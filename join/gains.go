package join

import (
	"slices"
	"sort"
)

// gained returns a wave with a gain, and how many samples it clips.
func gained(wave []int, num, den int) ([]int, int) {
	result, clips := make([]int, len(wave)), 0
	for i, sample := range wave {
		exact := rounded(sample*num, den)
		result[i] = clipped(exact)
		if result[i] != exact {
			clips++
		}
	}
	return result, clips
}

// greatestGain looks at the lowest and the highest sample alone: if a gain clips any, it clips one of them.
func greatestGain(wave []int, den int) int {
	if len(wave) == 0 {
		return mostGain
	}
	ends := []int{slices.Min(wave), slices.Max(wave)}
	return greatestRight(mostGain, func(num int) bool {
		_, clips := gained(ends, num, den)
		return clips == 0
	})
}

// levelDen is the denominator of the gains with which waves are brought to a loudness.
const levelDen = 1000

func leveled(wave []int, most int) []int {
	num := greatestRight(greatestGain(wave, levelDen), func(num int) bool {
		result, _ := gained(wave, num, levelDen)
		return loudness(result) <= most
	})
	result, _ := gained(wave, num, levelDen)
	return result
}

// greatestRight returns the greatest gain up to a bound that is right, if 0 is right, and none above one that is not.
func greatestRight(most int, right func(num int) bool) int {
	return sort.Search(most, func(num int) bool { return !right(num + 1) })
}
