package tract_test

import (
	"fmt"
	"math/big"
	"math/rand/v2"
	"slices"
	"testing"

	"declaim/api"
	"declaim/tract"
)

// energyOf is the sum of areas times squares of waves, which may be great.
func energyOf(areas, waves []int) *big.Int {
	sum := new(big.Int)
	for i, w := range waves {
		n := big.NewInt(int64(w))
		sum.Add(sum, n.Mul(n, n).Mul(n, big.NewInt(int64(areas[i]))))
	}
	return sum
}

// TestScatteredEnergy: the waves that leave a joint have no more energy than those that arrive (P8.1).
func TestScatteredEnergy(t *testing.T) {
	forRandom(3000, func(r *rand.Rand) {
		areas, most := randomAreas(r, fromTo(r, 1, 10)), someOf(r, 2, 100, 1<<30)
		waves := manyOf(len(areas), func() int { return someOf(r, -most, most, fromTo(r, -most, most)) })
		leaving, e := tract.Scatter(areas, waves)
		if e != api.OK || energyOf(areas, leaving).Cmp(energyOf(areas, waves)) > 0 {
			t.Errorf("%v of %v become %v, error %d", waves, areas, leaving, e)
		}
	})
}

// size is a number without its sign.
func size(n int) int { return max(n, -n) }

// sections is how many a shape has.
func sections(s api.Shape) int { return len(s.Areas) + len(s.Branch) }

// TestEnergy: without feeds, the energy never grows, and it is never more than all feeds can give (P8.3).
func TestEnergy(t *testing.T) {
	forRandom(600, func(r *rand.Rand) {
		s := randomShape(r, someOf(r, 2, 4, api.MaxSections))
		tube, areas, widest, fed := made(t, s), s.Areas, 0, 0
		for range 80 {
			before, feeds := tube.Energy(), []api.Feed(nil)
			switch r.IntN(4) {
			case 0:
				areas = randomAreas(r, len(s.Areas))
				isSame(t, "Change", tube.Change(areas, randomAreas(r, len(s.Branch))), api.OK)
			case 1:
				feeds = randomFeeds(r, len(s.Areas))
				stepped(t, tube, feeds...)
			default:
				stepped(t, tube)
			}
			for _, f := range feeds {
				widest, fed = max(widest, areas[f.Section]), fed+size(f.Amount)
			}
			if after := tube.Energy(); after < 0 || after > fed*fed*widest || len(feeds) == 0 && after > before {
				t.Fatalf("energy %d behind %d, of %d and %d", after, before, fed, widest)
			}
		}
	})
}

// TestRestful: without feeds and changes, a tube loses energy in twice as many steps as it has sections, and two more, until it is at rest; then nothing is heard (P8.4).
func TestRestful(t *testing.T) {
	forRandom(400, func(r *rand.Rand) {
		s := randomShape(r, someOf(r, 1, 2, 5, api.MaxSections))
		if isChance(r, 50) {
			s.Glottis, s.Lips, s.Nose = 99, 99, min(len(s.Branch), 1)*99
		}
		tube := made(t, s)
		for range r.IntN(6) {
			stepped(t, tube, randomFeeds(r, len(s.Areas))...)
		}
		for tube.Energy() != 0 {
			before := tube.Energy()
			if _, e := tube.Rest(2*sections(s) + 2); e != api.OK || tube.Energy() >= before {
				t.Fatalf("energy %d behind %d, error %d, of %v", tube.Energy(), before, e, s)
			}
		}
		isOK(t, "at rest", results(tube.Rest(9)), make([]api.Heard, 9))
	})
}

// TestFollowed: a follower never passes its goal, and reaches it (P8.5).
func TestFollowed(t *testing.T) {
	forRandom(500, func(r *rand.Rand) {
		most := someOf(r, 3, 1000, 100000)
		x, goal, speed := fromTo(r, -most, most), fromTo(r, -most, most), someOf(r, 1, 1000, fromTo(r, 1, 1000))
		above := x > goal
		for x != goal {
			next, e := tract.Follow(x, goal, speed)
			if e != api.OK || size(next-goal) >= size(x-goal) || next != goal && (next > goal) != above {
				t.Fatalf("from %d to %d for %d, error %d", x, next, goal, e)
			}
			x = next
		}
		isOK(t, "at the goal", results(tract.Follow(x, goal, speed)), goal)
	})
}

// TestAreasBetween: areas are from the least to the greatest one of all that are named (P8.5).
func TestAreasBetween(t *testing.T) {
	forRandom(500, func(r *rand.Rand) {
		rest, times := randomAreas(r, fromTo(r, 1, 5)), fromTo(r, 1, 60)
		gestures := randomGestures(r, len(rest), times+1)
		named := slices.Clone(rest)
		for _, g := range gestures {
			named = append(named, g.Area)
		}
		all, e := tract.Areas(rest, gestures, times)
		isSame(t, "error", e, api.OK)
		isSame(t, "times", len(all), times)
		for _, areas := range all {
			isSame(t, "sections", len(areas), len(rest))
			if slices.Min(areas) < slices.Min(named) || slices.Max(areas) > slices.Max(named) {
				t.Errorf("%v is not between those of %v", areas, named)
			}
		}
	})
}

// TestSources: samples are within their bounds, and a pulse is symmetric, and 0 at its beginning (P8.6).
func TestSources(t *testing.T) {
	forRandom(500, func(r *rand.Rand) {
		open, height := fromTo(r, 1, someOf(r, 9, api.MaxPeriod)), r.IntN(api.MaxFeed+1)
		pulse, e := tract.Pulses(api.Glottal{Periods: 1, Length: open, Open: open, Height: height})
		isSame(t, "error", e, api.OK)
		isSame(t, "beginning", pulse[0], 0)
		for j := 1; j < open; j++ {
			isSame(t, "symmetric", pulse[j], pulse[open-j])
		}
		if slices.Min(pulse) < 0 || slices.Max(pulse) > height {
			t.Errorf("a pulse of %d: %v", height, pulse)
		}
		noise, e := tract.Noise(int(r.Uint32()), height, 200)
		isSame(t, "error", e, api.OK)
		if slices.Min(noise) < -height || slices.Max(noise) > height {
			t.Errorf("noise of %d: %v", height, noise)
		}
	})
	noise, _ := tract.Noise(1, 3, 1000)
	isSame(t, "all of noise", slices.Compact(slices.Sorted(slices.Values(noise))), []int{-3, -2, -1, 0, 1, 2, 3})
}

// TestNoLater: what is heard up to a sample does not depend on later ones (P8.7).
func TestNoLater(t *testing.T) {
	forRandom(300, func(r *rand.Rand) {
		s, n := randomShape(r, 5), fromTo(r, 1, 40)
		glottis, noise := randomSources(r, n)
		gestures, at := randomGestures(r, len(s.Areas), n+1), r.IntN(len(s.Areas))
		whole, e := tract.Utter(s, gestures, glottis, noise, at)
		isSame(t, "error", e, api.OK)
		isSame(t, "length", len(whole), n)
		cut := r.IntN(n + 1)
		isOK(t, "cut", results(tract.Utter(s, gestures, glottis[:cut], noise[:min(cut, len(noise))], at)), whole[:cut])
		others, more := randomSources(r, n-cut)
		if len(noise) < cut {
			more = nil
		}
		other, e := tract.Utter(s, gestures, slices.Concat(glottis[:cut], others), slices.Concat(noise[:min(cut, len(noise))], more), at)
		isSame(t, "error", e, api.OK)
		isSame(t, "others behind", other[:cut], whole[:cut])
	})
}

// TestUtterSteps: an utterance is a tube that is changed and stepped (P8.7).
func TestUtterSteps(t *testing.T) {
	forRandom(200, func(r *rand.Rand) {
		s, n := randomShape(r, 5), r.IntN(40)
		glottis, noise := randomSources(r, n)
		gestures, at := randomGestures(r, len(s.Areas), n+1), fromTo(r, min(1, len(s.Areas)-1), len(s.Areas)-1)
		all, e := tract.Areas(s.Areas, gestures, n)
		isSame(t, "error", e, api.OK)
		tube := made(t, s)
		var want []api.Heard
		for i, g := range glottis {
			isSame(t, "Change", tube.Change(all[i], s.Branch), api.OK)
			feeds := []api.Feed{feed(0, g)}
			switch {
			case i < len(noise) && at == 0:
				feeds[0].Amount += noise[i]
			case i < len(noise):
				feeds = append(feeds, feed(at, noise[i]))
			}
			want = append(want, stepped(t, tube, feeds...))
		}
		isOK(t, "Utter", results(tract.Utter(s, gestures, glottis, noise, at)), want)
	})
}

// TestOtherSign: if all feeds change their sign, so does all that is heard (P8.8).
func TestOtherSign(t *testing.T) {
	minus := func(h api.Heard) api.Heard { return api.Heard{Lips: -h.Lips, Nose: -h.Nose} }
	forRandom(300, func(r *rand.Rand) {
		s := randomShape(r, someOf(r, 3, api.MaxSections))
		one, other := made(t, s), made(t, s)
		for range 60 {
			if isChance(r, 20) {
				areas, branch := randomAreas(r, len(s.Areas)), randomAreas(r, len(s.Branch))
				isSame(t, "Change", one.Change(areas, branch), other.Change(areas, branch))
			}
			feeds := randomFeeds(r, len(s.Areas))
			heard := stepped(t, one, feeds...)
			for i := range feeds {
				feeds[i].Amount = -feeds[i].Amount
			}
			isSame(t, "heard", stepped(t, other, feeds...), minus(heard))
			isSame(t, "energy", other.Energy(), one.Energy())
		}
	})
}

// TestEqualAreas: a tube of equal areas hears a single feed as many steps later as it has sections (P8.8).
func TestEqualAreas(t *testing.T) {
	forRandom(500, func(r *rand.Rand) {
		n, lips, x := fromTo(r, 1, api.MaxSections), r.IntN(100), fromTo(r, -api.MaxFeed, api.MaxFeed)
		tube := made(t, api.Shape{Areas: slices.Repeat([]int{fromTo(r, 1, api.MaxArea)}, n), Glottis: r.IntN(100), Lips: lips})
		isSame(t, "heard at once", stepped(t, tube, feed(0, x)), api.Heard{})
		want := make([]api.Heard, n)
		want[n-1].Lips = x - towardZero(lips*x, 100)
		isOK(t, "Rest", results(tube.Rest(n)), want)
	})
}

// TestMemory: no argument is changed or kept, and results share no memory with arguments, tubes or each other.
func TestMemory(t *testing.T) {
	s, areas, branch := branched(), []int{3, 3, 3}, []int{3, 3}
	feeds, gestures := []api.Feed{feed(0, 400), feed(2, -50)}, []api.Gesture{gestureE()}
	waves, glottis, noise := []int{5, 3, -9}, []int{400, 0, 0, 0}, []int{-50, 7}
	stretches := []api.Glottal{{Periods: 2, Length: 4, Open: 4, Height: 10}}
	arguments := func() string {
		return fmt.Sprint(s, areas, branch, feeds, gestures, waves, glottis, noise, stretches)
	}
	before := arguments()
	var lists [][]int
	var heard [][]api.Heard
	once := func() string {
		tube, _ := tract.New(s)
		tube.Step(feeds...)
		tube.Change(areas, branch)
		rest, _ := tube.Rest(5)
		leaving, _ := tract.Scatter(areas, waves)
		all, _ := tract.Areas(areas, gestures, 8)
		pulses, _ := tract.Pulses(stretches...)
		made, _ := tract.Noise(1, 5, 5)
		said, _ := tract.Utter(s, gestures, glottis, noise, 1)
		lists = append(slices.Concat(wavesOf(tube), wavesOf(tube), all), leaving, pulses, made)
		heard = [][]api.Heard{rest, said}
		return fmt.Sprint(lists, heard, looks(tube), tract.Check(s))
	}
	want := once()
	for _, list := range lists {
		for i := range list {
			list[i] = -1000
		}
	}
	for _, list := range lists {
		_ = append(list, -2000)
	}
	for _, list := range lists {
		if slices.Max(list) > -1000 || slices.Min(list) < -1000 {
			t.Errorf("shared: %v", list)
		}
	}
	isSame(t, "arguments", arguments(), before)
	isSame(t, "results", once(), want)
}

// TestOwnMemory: a tube keeps nothing of its arguments, and gives nothing away.
func TestOwnMemory(t *testing.T) {
	s, areas, branch := branched(), []int{3, 1, 4}, []int{1, 5}
	tube, same, idle := made(t, s), made(t, branched()), made(t, s)
	for i := range 20 {
		s.Areas[i%3], s.Branch[i%2] = 999, 999
		for _, other := range []*tract.Tube{tube, same} {
			stepped(t, other, feed(i%3, 20*i))
			isSame(t, "Change", other.Change(areas, branch), api.OK)
		}
		areas[i%3], branch[i%2] = 500+i, 600-i
		for _, list := range wavesOf(tube) {
			clear(list)
		}
		isSame(t, "looks", looks(tube), looks(same))
		areas, branch = []int{3, 1, 4}, []int{1, 5}
	}
	isSame(t, "another tube", looks(idle), looks(made(t, branched())))
	isSame(t, "both", results(tube.Rest(30)), results(same.Rest(30)))
}

// TestLimits: as many steps as may be, with as many sections, feeds and gestures.
func TestLimits(t *testing.T) {
	wide := slices.Repeat([]int{api.MaxArea, 1}, api.MaxSections/2)
	tube := made(t, api.Shape{Areas: wide, Branch: wide, Joint: 3, Glottis: 99, Lips: 99, Nose: 99})
	energy, waves := 0, 0
	for range api.MaxSteps {
		amount := api.MaxFeed
		if f, _, _, _ := tube.Waves(); f[22] < 0 {
			amount = -amount
		}
		stepped(t, tube, feed(22, amount))
		energy = max(energy, tube.Energy())
		f, b, _, _ := tube.Waves()
		waves = max(waves, slices.Max(f), slices.Max(b))
	}
	if energy > 1<<62 || energy < api.MaxArea*api.MaxFeed*api.MaxFeed || waves < api.MaxFeed {
		t.Errorf("energy %d, waves %d", energy, waves)
	}

	all := api.Gesture{Last: api.MaxSections - 1, End: api.MaxSteps, Area: 5, Speed: 1}
	areas, e := tract.Areas(wide, slices.Repeat([]api.Gesture{all}, api.MaxGestures), 8333)
	isOK(t, "Areas", results(areas[8332], e), slices.Repeat([]int{5}, api.MaxSections))
	glottis, noise := slices.Repeat([]int{300, -300}, api.MaxSteps/2), slices.Repeat([]int{200}, api.MaxSteps)
	said, e := tract.Utter(api.Shape{Areas: []int{1, 9}, Lips: 50}, []api.Gesture{{Last: 1, End: api.MaxSteps, Area: 1000, Speed: 1}}, glottis, noise, 1)
	isOK(t, "Utter", results(len(said), e), api.MaxSteps)
}

// TestAnyValue: every function returns for all arguments, with zero values if there is an error.
func TestAnyValue(t *testing.T) {
	right := 0
	tube := made(t, branched())
	forRandom(20000, func(r *rand.Rand) {
		number := func() int {
			if isChance(r, 96) {
				return r.IntN(5)
			}
			return someOf(r, int(r.Uint64()), least, -1, api.MaxSections, api.MaxFeed, api.MaxFeed+1, api.MaxArea, api.MaxArea+1, api.MaxPeriod, api.MaxSteps, 1<<31, 1<<32, greatest)
		}
		list := func() []int { return manyOf(r.IntN(5), number) }
		gestures := manyOf(r.IntN(3), func() api.Gesture {
			return api.Gesture{First: number(), Last: number(), Start: number(), End: number(), Area: number(), Speed: number()}
		})
		s := api.Shape{Areas: list(), Glottis: number(), Lips: number()}
		if isChance(r, 50) {
			s.Branch, s.Joint, s.Nose = list(), number(), number()
		}
		if tube.Steps() >= api.MaxSteps {
			tube = made(t, branched())
		}
		before := looks(tube)
		for i, got := range [][]any{
			results(tract.Check(s)),
			results(tract.Scatter(list(), list())),
			results(tract.New(s)),
			results(tube.Step(manyOf(r.IntN(3), func() api.Feed { return feed(number(), number()) })...)),
			results(tube.Rest(number())),
			results(tube.Change(list(), list())),
			results(tract.Follow(number(), number(), number())),
			results(tract.Areas(list(), gestures, number())),
			results(tract.Pulses(manyOf(r.IntN(3), func() api.Glottal {
				return api.Glottal{Periods: number(), Length: number(), Open: number(), Height: number()}
			})...)),
			results(tract.Noise(number(), number(), number())),
			results(tract.Utter(s, gestures, list(), list(), number())),
		} {
			if e := got[len(got)-1].(api.Errno); e != api.OK {
				isError(t, fmt.Sprint("call ", i), got, e)
				continue
			}
			right++
			before = ""
		}
		if before != "" && looks(tube) != before {
			t.Error("changed with errors alone")
		}
	})
	if right < 60000 {
		t.Errorf("only %d without an error", right)
	}
}
