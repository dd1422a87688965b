package house_test

import (
	"fmt"
	"math/rand/v2"
	"reflect"
	"slices"
	"testing"

	"declaim/api"
	"declaim/house"
)

const (
	least    = -1 << 63
	greatest = 1<<63 - 1
	lowest   = -32768 // sample
	highest  = 32767
)

// results are those of a call, its error at the end.
func results(all ...any) []any { return all }

// short prints the beginning of what may be a long list.
func short(printed any) string {
	text := fmt.Sprint(printed)
	return text[:min(len(text), 400)]
}

// isOK checks that a call has no error, and that it has these other results; nil and empty lists are printed the same.
func isOK(t *testing.T, name string, got []any, want ...any) {
	t.Helper()
	isSame(t, name, got, append(want, api.OK))
}

// isError checks that a call has an error and zero values.
func isError(t *testing.T, name string, got []any, want api.Errno) {
	t.Helper()
	last := len(got) - 1
	if got[last] != want {
		t.Errorf("%s: error %v, not %d", name, got[last], want)
	}
	for _, result := range got[:last] {
		if v := reflect.ValueOf(result); !v.IsZero() && (v.Kind() != reflect.Slice || v.Len() > 0) {
			t.Errorf("%s: result %s with an error", name, short(result))
		}
	}
}

// judge checks that a call has this error; OK: that it has none.
func judge(t *testing.T, name string, want api.Errno, got []any) {
	t.Helper()
	if want != api.OK {
		isError(t, name, got, want)
	} else if e := got[len(got)-1]; e != api.OK {
		t.Errorf("%s: error %d", name, e)
	}
}

// orArg is ErrArg for what is not valid.
func orArg(valid bool) api.Errno { return orError(valid, api.ErrArg) }

func orError(valid bool, e api.Errno) api.Errno {
	if valid {
		return api.OK
	}
	return e
}

func isSame(t *testing.T, name string, got, want any) {
	t.Helper()
	if fmt.Sprint(got) != fmt.Sprint(want) {
		t.Errorf("%s: %s, not %s", name, short(got), short(want))
	}
}

// bounds are a range's numbers at its ends and others near it and far from it, and whether they are in it.
func bounds(from, to int) map[int]bool {
	return map[int]bool{from: true, to: true, from - 1: false, to + 1: false, least: false, greatest: false}
}

// someOf returns one of a few elements.
func someOf[E any](r *rand.Rand, elements ...E) E { return elements[r.IntN(len(elements))] }

// manyOf returns a list with random elements.
func manyOf[E any](n int, element func() E) []E {
	all := make([]E, n)
	for i := range all {
		all[i] = element()
	}
	return all
}

func isChance(r *rand.Rand, percent int) bool { return r.IntN(100) < percent }

// fromTo returns a number of a range.
func fromTo(r *rand.Rand, from, to int) int { return from + r.IntN(to-from+1) }

// forRandom calls something with a new random source for each seed.
func forRandom(times int, call func(r *rand.Rand)) {
	for seed := range uint64(times) {
		call(rand.New(rand.NewPCG(seed, 10)))
	}
}

// flat is a list of equal numbers.
func flat(n, number int) []int { return slices.Repeat([]int{number}, n) }

func randomWave(r *rand.Rand, n, loud int) []int {
	return manyOf(n, func() int { return fromTo(r, -loud, loud) })
}

// oneKey is a key whose first chips are all 1, as are the bits of the word of its message 1 with one bit: a period has a correlation of the sum of its samples.
const oneKey = 3625080

// stampOnes has frames of 18 periods of 4 samples.
func stampOnes() api.Stamp { return api.Stamp{Key: oneKey, Period: 4, Bits: 1, Margin: 20} }

const framesOnes = 72

func TestStampOnes(t *testing.T) {
	isOK(t, "Chips", results(house.Chips(oneKey, 8)), flat(8, 1))
	isOK(t, "Word", results(house.Word(stampOnes(), 1)), slices.Repeat([]bool{true}, 17))
}

// frameOf is how many samples a frame has.
func frameOf(m api.Stamp) int { return m.Period * (m.Bits + 17) }

func randomStamp(r *rand.Rand) api.Stamp {
	return api.Stamp{
		Key:    someOf(r, r.IntN(10), oneKey, r.IntN(api.MaxKey), api.MaxKey),
		Period: someOf(r, 4, 5, fromTo(r, 4, 40), 256),
		Bits:   someOf(r, 1, 2, fromTo(r, 1, 16)),
		Margin: someOf(r, fromTo(r, 1, 30), fromTo(r, 1, 5000)),
	}
}

func randomMessage(r *rand.Rand, m api.Stamp) int { return r.IntN(1 << m.Bits) }

func chance(of, all int) api.Chance { return api.Chance{Of: of, All: all} }

func change(from, to, most int) api.Change { return api.Change{From: from, To: to, Most: most} }
