package join

import "sort"

type integer interface {
	~int | ~int8 | ~int16 | ~int32 | ~int64 | ~uint | ~uint8 | ~uint16 | ~uint32 | ~uint64
}

// squares returns the sum of the squares of numbers.
func squares[N integer](numbers []N) int {
	sum := 0
	for _, n := range numbers {
		sum += int(n) * int(n)
	}
	return sum
}

// differences subtracts two lists of the same length.
func differences(x, y []int) []int {
	list := make([]int, len(x))
	for i := range list {
		list[i] = x[i] - y[i]
	}
	return list
}

func step(wave []int) int {
	if len(wave) == 0 {
		return 0
	}
	greatest := 0
	for _, d := range differences(wave[1:], wave[:len(wave)-1]) {
		greatest = max(greatest, d, -d)
	}
	return greatest
}

// loudness needs a wave that is not empty.
func loudness(wave []int) int { return root(squares(wave) / len(wave)) }

// root returns the integer part of a square root that is not greater than a sample can be.
func root(n int) int {
	return sort.Search(-lowest, func(r int) bool { return (r+1)*(r+1) > n })
}

// rounded divides with rounding.
func rounded(a, b int) int {
	if a < 0 {
		return -rounded(-a, b)
	}
	return (2*a + b) / (2 * b)
}

// clipped returns the nearest number that a sample can be.
func clipped(n int) int { return min(max(n, lowest), highest) }
