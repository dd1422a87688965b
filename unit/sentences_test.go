package unit_test

import (
	"fmt"
	"math/rand/v2"
	"reflect"
	"slices"
	"testing"

	"declaim/api"
)

const (
	least    = -1 << 63
	greatest = 1<<63 - 1
)

// voiceE is the voice of the chapter's examples, weightsE their weights, setsE their sets.
func voiceE() []api.Unit {
	return []api.Unit{
		{Phone: "a", Pitch: 100, Length: 10, Take: 0, From: 0, To: 10, Begin: []int{0}, End: []int{4}},
		{Phone: "b", Pitch: 100, Length: 10, Take: 0, From: 10, To: 20, Begin: []int{5}, End: []int{0}},
		{Phone: "a", Pitch: 120, Length: 10, Take: 1, From: 0, To: 10, Begin: []int{0}, End: []int{5}},
	}
}

func weightsE() api.Weights { return api.Weights{Beside: 1, Pitch: 1, Length: 1, Join: 2} }

func setsE() [][]int { return [][]int{{0, 1, 2}, {0, 3}, {1, 2}, {3}} }

// wanted are targets for phones, like the units of the chapter's examples.
func wanted(phones ...string) []api.Wanted {
	var all []api.Wanted
	for _, phone := range phones {
		all = append(all, api.Wanted{Phone: phone, Pitch: 100, Length: 10})
	}
	return all
}

// results are those of a call, its error, if it has one, at the end.
func results(all ...any) []any { return all }

// isOK checks that a call has no error, and that it has these other results; nil and empty lists are printed the same.
func isOK(t *testing.T, name string, got []any, want ...any) {
	t.Helper()
	if fmt.Sprint(got) != fmt.Sprint(append(want, api.OK)) {
		t.Errorf("%s: %v, not %v", name, got, want)
	}
}

// isError checks that a call has an error and zero values.
func isError(t *testing.T, name string, got []any, want api.Errno) {
	t.Helper()
	last := len(got) - 1
	if got[last] != want {
		t.Errorf("%s: %v, not the error %d", name, got, want)
	}
	for _, result := range got[:last] {
		if v := reflect.ValueOf(result); !v.IsZero() && (v.Kind() != reflect.Slice || v.Len() > 0) {
			t.Errorf("%s: result %v with an error", name, result)
		}
	}
}

func isSame(t *testing.T, name string, got, want any) {
	t.Helper()
	if fmt.Sprint(got) != fmt.Sprint(want) {
		t.Errorf("%s: %v, not %v", name, got, want)
	}
}

// someOf returns one of a few elements.
func someOf[E any](r *rand.Rand, elements ...E) E { return elements[r.IntN(len(elements))] }

// manyOf returns a list with random elements.
func manyOf[E any](n int, element func() E) []E {
	all := make([]E, n)
	for i := range all {
		all[i] = element()
	}
	return all
}

func isChance(r *rand.Rand, percent int) bool { return r.IntN(100) < percent }

// fromTo returns a number of a range.
func fromTo(r *rand.Rand, from, to int) int { return from + r.IntN(to-from+1) }

// forRandom calls something with a new random source for each seed.
func forRandom(times int, call func(r *rand.Rand)) {
	for seed := range uint64(times) {
		call(rand.New(rand.NewPCG(seed, 6)))
	}
}

// changed is a list with another element.
func changed[E any](list []E, i int, change func(*E)) []E {
	list = slices.Clone(list)
	change(&list[i])
	return list
}

func randomPhone(r *rand.Rand) string { return someOf(r, "a", "a", "b", "c") }

func randomBeside(r *rand.Rand) string { return someOf(r, "", "x", "y") }

// randomWanted has small numbers or great ones.
func randomWanted(r *rand.Rand) api.Wanted {
	return api.Wanted{
		Phone: randomPhone(r), Before: randomBeside(r), After: randomBeside(r),
		Pitch: someOf(r, 0, 100, 103, r.IntN(2001)), Length: someOf(r, 1, 2, 3, fromTo(r, 1, someOf(r, 10, 100000))),
	}
}

// randomUnit is from one of a few takes, where units often follow each other.
func randomUnit(r *rand.Rand, parts, most int) api.Unit {
	like, from := randomWanted(r), r.IntN(4)
	element := func() int { return fromTo(r, -most, most) }
	return api.Unit{
		Phone: like.Phone, Before: like.Before, After: like.After, Pitch: like.Pitch, Length: like.Length,
		Take: r.IntN(3), From: from, To: fromTo(r, from+1, 4), Begin: manyOf(parts, element), End: manyOf(parts, element),
	}
}

func randomVoice(r *rand.Rand, units int) []api.Unit {
	parts, most := someOf(r, 1, 2, 3), someOf(r, 1, 3, 10000)
	return manyOf(units, func() api.Unit { return randomUnit(r, parts, most) })
}

// randomTargets are some that a voice has units for.
func randomTargets(r *rand.Rand, voice []api.Unit, n int) []api.Wanted {
	return manyOf(n, func() api.Wanted {
		w := randomWanted(r)
		w.Phone = someOf(r, voice...).Phone
		return w
	})
}

func randomWeights(r *rand.Rand) api.Weights {
	weight := func() int { return someOf(r, 0, 1, 1, 2, 3, r.IntN(1001)) }
	return api.Weights{Beside: weight(), Pitch: weight(), Length: weight(), Join: weight()}
}

// randomSequence has units with the phones of targets.
func randomSequence(r *rand.Rand, voice []api.Unit, t []api.Wanted) []int {
	var units []int
	for _, target := range t {
		u := r.IntN(len(voice))
		for voice[u].Phone != target.Phone {
			u = (u + 1) % len(voice)
		}
		units = append(units, u)
	}
	return units
}

func randomVectors(r *rand.Rand, n, parts, most int) [][]int {
	return manyOf(n, func() []int { return manyOf(parts, func() int { return fromTo(r, -most, most) }) })
}

// randomSets have numbers less than n, some of them several times; often, all numbers are in some set.
func randomSets(r *rand.Rand, n, sets int) [][]int {
	percent, all := someOf(r, 5, 15, 25), make([][]int, sets)
	for i := range all {
		for range 2 * n {
			if isChance(r, percent) {
				all[i] = append(all[i], r.IntN(n))
			}
		}
	}
	if sets > 0 && isChance(r, 85) {
		for number := range n {
			i := r.IntN(sets)
			all[i] = append(all[i], number)
		}
	}
	return all
}
