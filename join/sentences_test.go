package join_test

import (
	"fmt"
	"math/rand/v2"
	"reflect"
	"slices"
	"testing"

	"declaim/api"
)

const (
	least    = -1 << 63
	greatest = 1<<63 - 1
	lowest   = -32768 // sample
	highest  = 32767
)

// markedE is the wave with marks of the chapter's examples.
func markedE() api.Marked {
	return api.Marked{Samples: []int{5, 1, 2, 3, 4, 6}, Marks: []int{1, 3, 5}}
}

// results are those of a call, its error at the end.
func results(all ...any) []any { return all }

// short prints the beginning of what may be a long wave.
func short(printed any) string {
	text := fmt.Sprint(printed)
	return text[:min(len(text), 400)]
}

// isOK checks that a call has no error, and that it has these other results; nil and empty lists are printed the same.
func isOK(t *testing.T, name string, got []any, want ...any) {
	t.Helper()
	isSame(t, name, got, append(want, api.OK))
}

// isError checks that a call has an error and zero values.
func isError(t *testing.T, name string, got []any, want api.Errno) {
	t.Helper()
	last := len(got) - 1
	if got[last] != want {
		t.Errorf("%s: error %v, not %d", name, got[last], want)
	}
	for _, result := range got[:last] {
		if v := reflect.ValueOf(result); !v.IsZero() && (v.Kind() != reflect.Slice || v.Len() > 0) {
			t.Errorf("%s: result %s with an error", name, short(result))
		}
	}
}

// judge checks that a call has this error; OK: that it has none.
func judge(t *testing.T, name string, want api.Errno, got []any) {
	t.Helper()
	if want != api.OK {
		isError(t, name, got, want)
	} else if e := got[len(got)-1]; e != api.OK {
		t.Errorf("%s: error %d", name, e)
	}
}

// orArg is ErrArg for what is not valid.
func orArg(valid bool) api.Errno {
	if valid {
		return api.OK
	}
	return api.ErrArg
}

func isSame(t *testing.T, name string, got, want any) {
	t.Helper()
	if fmt.Sprint(got) != fmt.Sprint(want) {
		t.Errorf("%s: %s, not %s", name, short(got), short(want))
	}
}

// bounds are a range's numbers at its ends and others near it and far from it, and whether they are in it.
func bounds(from, to int) map[int]bool {
	return map[int]bool{from: true, to: true, from - 1: false, to + 1: false, least: false, greatest: false}
}

// someOf returns one of a few elements.
func someOf[E any](r *rand.Rand, elements ...E) E { return elements[r.IntN(len(elements))] }

// manyOf returns a list with random elements.
func manyOf[E any](n int, element func() E) []E {
	all := make([]E, n)
	for i := range all {
		all[i] = element()
	}
	return all
}

func isChance(r *rand.Rand, percent int) bool { return r.IntN(100) < percent }

// fromTo returns a number of a range.
func fromTo(r *rand.Rand, from, to int) int { return from + r.IntN(to-from+1) }

// forRandom calls something with a new random source for each seed.
func forRandom(times int, call func(r *rand.Rand)) {
	for seed := range uint64(times) {
		call(rand.New(rand.NewPCG(seed, 7)))
	}
}

// flat is a wave of equal samples.
func flat(n, sample int) []int { return slices.Repeat([]int{sample}, n) }

// randomWave has samples near 0, any ones, or the lowest and the highest ones.
func randomWave(r *rand.Rand, n int) []int {
	most := someOf(r, 1, 3, 1000, highest)
	wave := manyOf(n, func() int { return fromTo(r, -most, most) })
	if isChance(r, 20) {
		wave = manyOf(n, func() int { return someOf(r, lowest, lowest+1, highest-1, highest) })
	}
	return wave
}

// randomMarked has periods of at most so many samples, and often a head and a tail.
func randomMarked(r *rand.Rand, periods, longest int) api.Marked {
	mark := someOf(r, 0, r.IntN(5))
	marks := []int{mark}
	for range fromTo(r, 1, periods) {
		mark += fromTo(r, 1, longest)
		marks = append(marks, mark)
	}
	return api.Marked{Samples: randomWave(r, mark+someOf(r, 0, r.IntN(5))), Marks: marks}
}

// randomRatio is one that is permitted.
func randomRatio(r *rand.Rand) (int, int) {
	if isChance(r, 50) {
		return fromTo(r, 1, 5), fromTo(r, 1, 5)
	}
	num := fromTo(r, 1, 1000)
	return num, fromTo(r, (num+api.MaxRatio-1)/api.MaxRatio, min(num*api.MaxRatio, 1000))
}

// periodsOf cuts a wave at its marks.
func periodsOf(m api.Marked) [][]int {
	var periods [][]int
	for i := range len(m.Marks) - 1 {
		periods = append(periods, m.Samples[m.Marks[i]:m.Marks[i+1]])
	}
	return periods
}
