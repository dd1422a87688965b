package pitch

import (
	"cmp"
	"slices"

	"declaim/api"
)

// rounded divides with rounding.
func rounded(a, b int) int {
	if a < 0 {
		return -rounded(-a, b)
	}
	return (2*a + b) / (2 * b)
}

func curve(n, base int, commands []api.Command) []int {
	values := slices.Repeat([]int{base}, n)
	for _, c := range commands {
		for t := range values {
			values[t] += value(c, t)
		}
	}
	return values
}

// value rounds once, at the end: a shape between two of its knots has fractions as values.
func value(c api.Command, t int) int {
	time := t - c.At
	i, found := slices.BinarySearchFunc(c.Shape, time, func(k api.Knot, time int) int { return cmp.Compare(k.Time, time) })
	switch {
	case found:
		return rounded(c.Height*c.Shape[i].Value, 1000)
	case i == 0 || i == len(c.Shape):
		return 0
	}
	a, b := c.Shape[i-1], c.Shape[i]
	span := b.Time - a.Time
	return rounded(c.Height*(a.Value*span+(b.Value-a.Value)*(time-a.Time)), 1000*span)
}
