package letter

import (
	"slices"
	"strings"

	"declaim/api"
)

// join joins pronunciations; false if one of them becomes too long.
func join(joints []api.Joint, words [][]string) ([][]string, bool) {
	var joined [][]string
	for _, phones := range words {
		joined = append(joined, slices.Clone(phones))
	}
	for i := 1; i < len(joined); i++ {
		left, right := meet(joints, joined[i-1], joined[i])
		if len(left) > mostPhones || len(right) > mostPhones {
			return nil, false
		}
		joined[i-1], joined[i] = left, right
	}
	return joined, true
}

// meet applies the first joint that fits between two pronunciations, if there is one.
func meet(joints []api.Joint, left, right []string) ([]string, []string) {
	for _, j := range joints {
		if !endsWith(left, j.Left) || !beginsWith(right, j.Right) {
			continue
		}
		kept, rest := left[:len(left)-len(j.Left)], right[len(j.Right):]
		return slices.Concat(kept, j.ToLeft), slices.Concat(j.ToRight, rest)
	}
	return left, right
}

func endsWith(phones, piece []string) bool {
	return len(phones) >= len(piece) && slices.Equal(phones[len(phones)-len(piece):], piece)
}

func beginsWith(phones, piece []string) bool {
	return len(phones) >= len(piece) && slices.Equal(phones[:len(piece)], piece)
}

// accented returns what becomes of a phone in a degree of an accent.
func accented(a []api.Foreign, phone string, degree int) []string {
	i, found := find(a, func(f api.Foreign) int { return strings.Compare(f.Phone, phone) })
	if !found || degree == 0 {
		return []string{phone}
	}
	steps := a[i].Steps
	return steps[min(degree, len(steps))-1]
}
