package house

import (
	"slices"

	"declaim/api"
)

// square returns n rows, or twice as many if n is odd.
func square(n int) [][]int {
	var rows [][]int
	for i := range n {
		row := make([]int, n)
		for place := range row {
			row[place] = (zigzag(place, n) + i) % n
		}
		rows = append(rows, row)
	}
	if n%2 == 0 {
		return rows
	}
	for _, row := range rows[:n] {
		backwards := slices.Clone(row)
		slices.Reverse(backwards)
		rows = append(rows, backwards)
	}
	return rows
}

// zigzag is 0, 1, n - 1, 2, n - 2, .., modulo n.
func zigzag(place, n int) int {
	if place%2 == 1 {
		return (place + 1) / 2
	}
	return n - place/2
}

func balanced(plan [][]int, n int) bool {
	var at, beside [api.MaxVoices][api.MaxVoices]int // by place and voice; by two voices
	for _, row := range plan {
		if !isOrder(row, n) {
			return false
		}
		for place, voice := range row {
			at[place][voice]++
			if place > 0 {
				beside[row[place-1]][voice]++
			}
		}
	}
	// With equal counts, each of them is the number of rows divided by n.
	for i := range n {
		for j := range n {
			if at[i][j]*n != len(plan) || i != j && beside[i][j]*n != len(plan) {
				return false
			}
		}
	}
	return true
}

// isOrder reports whether a row has each of n voices once.
func isOrder(row []int, n int) bool {
	var has [api.MaxVoices]bool
	for _, voice := range row {
		if !between(voice, 0, n-1) || has[voice] {
			return false
		}
		has[voice] = true
	}
	return len(row) == n
}
