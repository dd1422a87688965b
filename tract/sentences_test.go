package tract_test

import (
	"fmt"
	"math/rand/v2"
	"reflect"
	"testing"

	"declaim/api"
	"declaim/tract"
)

const (
	least    = -1 << 63
	greatest = 1<<63 - 1
)

// results are those of a call, its error at the end.
func results(all ...any) []any { return all }

// short prints the beginning of what may be a long list.
func short(printed any) string {
	text := fmt.Sprint(printed)
	return text[:min(len(text), 400)]
}

// isOK checks that a call has no error, and that it has these other results; nil and empty lists are printed the same.
func isOK(t *testing.T, name string, got []any, want ...any) {
	t.Helper()
	isSame(t, name, got, append(want, api.OK))
}

// isError checks that a call has an error and zero values.
func isError(t *testing.T, name string, got []any, want api.Errno) {
	t.Helper()
	last := len(got) - 1
	if got[last] != want {
		t.Errorf("%s: error %v, not %d", name, got[last], want)
	}
	for _, result := range got[:last] {
		if v := reflect.ValueOf(result); !v.IsZero() && (v.Kind() != reflect.Slice || v.Len() > 0) {
			t.Errorf("%s: result %s with an error", name, short(result))
		}
	}
}

// judge checks that a call has this error; OK: that it has none.
func judge(t *testing.T, name string, want api.Errno, got []any) {
	t.Helper()
	if want != api.OK {
		isError(t, name, got, want)
	} else if e := got[len(got)-1]; e != api.OK {
		t.Errorf("%s: error %d", name, e)
	}
}

// orArg is ErrArg for what is not valid.
func orArg(valid bool) api.Errno {
	if valid {
		return api.OK
	}
	return api.ErrArg
}

func isSame(t *testing.T, name string, got, want any) {
	t.Helper()
	if fmt.Sprint(got) != fmt.Sprint(want) {
		t.Errorf("%s: %s, not %s", name, short(got), short(want))
	}
}

// bounds are a range's numbers at its ends and others near it and far from it, and whether they are in it.
func bounds(from, to int) map[int]bool {
	return map[int]bool{from: true, to: true, from - 1: false, to + 1: false, least: false, greatest: false}
}

// someOf returns one of a few elements.
func someOf[E any](r *rand.Rand, elements ...E) E { return elements[r.IntN(len(elements))] }

// manyOf returns a list with random elements.
func manyOf[E any](n int, element func() E) []E {
	all := make([]E, n)
	for i := range all {
		all[i] = element()
	}
	return all
}

func isChance(r *rand.Rand, percent int) bool { return r.IntN(100) < percent }

// fromTo returns a number of a range.
func fromTo(r *rand.Rand, from, to int) int { return from + r.IntN(to-from+1) }

// forRandom calls something with a new random source for each seed.
func forRandom(times int, call func(r *rand.Rand)) {
	for seed := range uint64(times) {
		call(rand.New(rand.NewPCG(seed, 8)))
	}
}

// made returns a new tube.
func made(t *testing.T, s api.Shape) *tract.Tube {
	t.Helper()
	tube, e := tract.New(s)
	if e != api.OK || tube == nil {
		t.Fatalf("New: error %d of %v", e, s)
	}
	return tube
}

// stepped makes a step and returns what is heard.
func stepped(t *testing.T, tube *tract.Tube, feeds ...api.Feed) api.Heard {
	t.Helper()
	heard, e := tube.Step(feeds...)
	if e != api.OK {
		t.Errorf("Step: error %d", e)
	}
	return heard
}

// wavesOf are all waves of a tube, in one list of four.
func wavesOf(tube *tract.Tube) [][]int {
	a, b, c, d := tube.Waves()
	return [][]int{a, b, c, d}
}

// looks is all that a tube shows.
func looks(tube *tract.Tube) string {
	return fmt.Sprint(wavesOf(tube), tube.Energy(), tube.Steps())
}

// branched is a tube of three sections, with a branch of two behind the first one.
func branched() api.Shape {
	return api.Shape{Areas: []int{2, 1, 3}, Branch: []int{1, 2}, Joint: 0, Glottis: 80, Lips: 60, Nose: 50}
}

func feed(section, amount int) api.Feed { return api.Feed{Section: section, Amount: amount} }

// randomAreas have likely values, and others.
func randomAreas(r *rand.Rand, n int) []int {
	most := someOf(r, 1, 4, 50, api.MaxArea)
	return manyOf(n, func() int { return someOf(r, fromTo(r, 1, most), most) })
}

func randomShape(r *rand.Rand, sections int) api.Shape {
	percent := func() int { return someOf(r, 0, 99, r.IntN(100)) }
	s := api.Shape{Areas: randomAreas(r, fromTo(r, 1, sections)), Glottis: percent(), Lips: percent()}
	if len(s.Areas) >= 2 && isChance(r, 60) {
		s.Branch, s.Nose, s.Joint = randomAreas(r, fromTo(r, 1, sections)), percent(), r.IntN(len(s.Areas)-1)
	}
	return s
}

// randomFeeds are often none; the absolute values together are sometimes as great as may be.
func randomFeeds(r *rand.Rand, sections int) []api.Feed {
	var feeds []api.Feed
	left := someOf(r, 0, 3, api.MaxFeed)
	for _, section := range r.Perm(sections)[:r.IntN(sections+1)] {
		size := someOf(r, left, r.IntN(left+1))
		left -= size
		feeds = append(feeds, feed(section, someOf(r, size, -size)))
	}
	return feeds
}

func randomGestures(r *rand.Rand, sections, latest int) []api.Gesture {
	return manyOf(r.IntN(6), func() api.Gesture {
		first, start := r.IntN(sections), r.IntN(latest)
		return api.Gesture{
			First: first, Last: fromTo(r, first, sections-1), Start: start, End: fromTo(r, start+1, latest),
			Area: someOf(r, fromTo(r, 1, 9), fromTo(r, 1, api.MaxArea)), Speed: someOf(r, 1, 1000, fromTo(r, 1, 1000)),
		}
	})
}

// randomSources are samples of the glottis and of noise that can be uttered.
func randomSources(r *rand.Rand, n int) ([]int, []int) {
	loud := someOf(r, 2, api.MaxFeed)
	var glottis, noise []int
	for range n {
		size := r.IntN(loud + 1)
		glottis = append(glottis, someOf(r, size, -size))
		other := r.IntN(loud - size + 1)
		noise = append(noise, someOf(r, other, -other))
	}
	return glottis, noise[:someOf(r, 0, n, r.IntN(n+1))]
}
