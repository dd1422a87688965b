package pitch_test

import (
	"fmt"
	"math/rand/v2"
	"reflect"
	"slices"
	"testing"

	"declaim/api"
)

// commandE is the command of the chapter's first example, problemE its problem.
func commandE() api.Command {
	return api.Command{At: 10, Height: 100, Shape: []api.Knot{{Time: 0}, {Time: 4, Value: 1000}, {Time: 8}}}
}

func problemE() api.Contour {
	return api.Contour{Frames: 3, High: 10, Slope: 2, Targets: []api.Target{{Time: 0, Value: 0, Weight: 1}, {Time: 2, Value: 10, Weight: 1}}}
}

// results are those of a call, its error at the end.
func results(all ...any) []any { return all }

// isOK checks that a call has no error, and that it has these other results; nil and empty lists are printed the same.
func isOK(t *testing.T, name string, got []any, want ...any) {
	t.Helper()
	if fmt.Sprint(got) != fmt.Sprint(append(want, api.OK)) {
		t.Errorf("%s: %v, not %v", name, got, want)
	}
}

// isError checks that a call has an error and zero values.
func isError(t *testing.T, name string, got []any, want api.Errno) {
	t.Helper()
	last := len(got) - 1
	if got[last] != want {
		t.Errorf("%s: %v, not the error %d", name, got, want)
	}
	for _, result := range got[:last] {
		if v := reflect.ValueOf(result); !v.IsZero() && (v.Kind() != reflect.Slice || v.Len() > 0) {
			t.Errorf("%s: result %v with an error", name, result)
		}
	}
}

func isSame(t *testing.T, name string, got, want any) {
	t.Helper()
	if fmt.Sprint(got) != fmt.Sprint(want) {
		t.Errorf("%s: %v, not %v", name, got, want)
	}
}

// someOf returns one of a few elements.
func someOf[E any](r *rand.Rand, elements ...E) E { return elements[r.IntN(len(elements))] }

// manyOf returns a list with random elements.
func manyOf[E any](n int, element func() E) []E {
	all := make([]E, n)
	for i := range all {
		all[i] = element()
	}
	return all
}

func isChance(r *rand.Rand, percent int) bool { return r.IntN(100) < percent }

// fromTo returns a number of a range.
func fromTo(r *rand.Rand, from, to int) int { return from + r.IntN(to-from+1) }

// forRandom calls something with a new random source for each seed.
func forRandom(times int, call func(r *rand.Rand)) {
	for seed := range uint64(times) {
		call(rand.New(rand.NewPCG(seed, 5)))
	}
}

// randomCommand has a shape of at most so many knots, at most so far from each other.
func randomCommand(r *rand.Rand, knots, apart int) api.Command {
	most := someOf(r, 3, 1000, api.MaxHeight)
	c := api.Command{At: fromTo(r, -30, 50), Height: fromTo(r, -most, most)}
	time := r.IntN(10)
	for range fromTo(r, 1, knots) {
		c.Shape = append(c.Shape, api.Knot{Time: time, Value: someOf(r, 0, 1, 500, 1000, -1000, fromTo(r, -1000, 1000))})
		time += fromTo(r, 1, apart)
	}
	return c
}

func randomCommands(r *rand.Rand, n int) []api.Command {
	return manyOf(n, func() api.Command { return randomCommand(r, 6, 12) })
}

// randomProblem has at most so many frames and values, and targets in and around its range.
func randomProblem(r *rand.Rand, frames, values int) api.Contour {
	p := api.Contour{Frames: fromTo(r, 1, frames), Low: fromTo(r, -20, 20), Slope: r.IntN(values + 1), Smooth: someOf(r, 0, 0, 1, 2, 5, fromTo(r, 0, 1000))}
	p.High = p.Low + r.IntN(values)
	if isChance(r, 50) {
		p.Slope = min(p.Slope, someOf(r, 0, 1, 1, 2, 3))
	}
	heaviest := someOf(r, 1, 3, 1000)
	p.Targets = manyOf(r.IntN(2*p.Frames), func() api.Target {
		return api.Target{Time: r.IntN(p.Frames), Value: fromTo(r, p.Low-values/2, p.High+values/2), Weight: fromTo(r, 0, heaviest)}
	})
	return p
}

// randomContour goes up and down by at most the slope.
func randomContour(r *rand.Rand, p api.Contour) []int {
	contour := []int{fromTo(r, p.Low, p.High)}
	for i := range p.Frames - 1 {
		contour = append(contour, fromTo(r, max(p.Low, contour[i]-p.Slope), min(p.High, contour[i]+p.Slope)))
	}
	return contour
}

// randomFrequencies have at least some pulses.
func randomFrequencies(r *rand.Rand, n, rate int) []int {
	most := someOf(r, 500*rate, 500*rate, 100*rate)
	return manyOf(n, func() int { return someOf(r, r.IntN(most+1), most, r.IntN(3)) })
}

func randomNote(r *rand.Rand, longest int) api.Note {
	n := api.Note{Key: r.IntN(120), Length: fromTo(r, 1, longest), Depth: r.IntN(201), Period: fromTo(r, 4, someOf(r, 12, 200))}
	n.Glide, n.Delay = someOf(r, 0, n.Length, r.IntN(n.Length+1)), someOf(r, 0, n.Length, r.IntN(n.Length+1))
	return n
}

// plainNote has no glide and no vibrato.
func plainNote(key, length int) api.Note { return api.Note{Key: key, Length: length, Period: 4} }

// changed is a list with another element.
func changed[E any](list []E, i int, change func(*E)) []E {
	list = slices.Clone(list)
	change(&list[i])
	return list
}
