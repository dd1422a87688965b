package tract_test

import (
	"math/rand/v2"
	"testing"

	"declaim/api"
	"declaim/tract"
)

// Random arguments have the results of the model.

func TestRandomScatter(t *testing.T) {
	forRandom(3000, func(r *rand.Rand) {
		areas, most := randomAreas(r, fromTo(r, 1, 10)), someOf(r, 2, 100, 1<<30)
		waves := manyOf(len(areas), func() int { return someOf(r, -most, most, fromTo(r, -most, most)) })
		isOK(t, "Scatter", results(tract.Scatter(areas, waves)), modelScatter(areas, waves))
	})
}

func TestRandomTube(t *testing.T) {
	branches := 0
	forRandom(600, func(r *rand.Rand) {
		s := randomShape(r, someOf(r, 2, 4, api.MaxSections))
		if len(s.Branch) > 0 {
			branches++
		}
		tube, m := made(t, s), newModel(s)
		for range 60 {
			switch r.IntN(6) {
			case 0:
				areas, branch := randomAreas(r, len(s.Areas)), randomAreas(r, len(s.Branch))
				isSame(t, "error of Change", tube.Change(areas, branch), api.OK)
				m.change(areas, branch)
			case 1:
				var want []api.Heard
				n := r.IntN(8)
				for range n {
					want = append(want, m.step(nil))
				}
				isOK(t, "Rest", results(tube.Rest(n)), want)
			default:
				feeds := randomFeeds(r, len(s.Areas))
				isOK(t, "Step", results(tube.Step(feeds...)), m.step(feeds))
			}
			isSame(t, "waves", wavesOf(tube), m.waves())
			isSame(t, "energy", tube.Energy(), m.energy())
			isSame(t, "steps", tube.Steps(), m.steps)
		}
	})
	if branches < 200 {
		t.Errorf("only %d branches", branches)
	}
}

func TestRandomFollow(t *testing.T) {
	forRandom(3000, func(r *rand.Rand) {
		most := someOf(r, 3, 1000, 1000000000)
		x, goal, speed := fromTo(r, -most, most), fromTo(r, -most, most), someOf(r, 1, 1000, fromTo(r, 1, 1000))
		isOK(t, "Follow", results(tract.Follow(x, goal, speed)), modelFollow(x, goal, speed))
	})
}

func TestRandomAreas(t *testing.T) {
	forRandom(1000, func(r *rand.Rand) {
		rest, times := randomAreas(r, fromTo(r, 1, someOf(r, 3, api.MaxSections))), r.IntN(60)
		gestures := randomGestures(r, len(rest), someOf(r, 3, times+1, api.MaxSteps))
		isOK(t, "Areas", results(tract.Areas(rest, gestures, times)), modelAreas(rest, gestures, times))
	})
}

func TestRandomPulses(t *testing.T) {
	forRandom(1000, func(r *rand.Rand) {
		stretches := manyOf(r.IntN(5), func() api.Glottal {
			length := fromTo(r, 1, someOf(r, 3, 20, api.MaxPeriod))
			return api.Glottal{Periods: fromTo(r, 1, 4), Length: length, Open: someOf(r, 0, length, r.IntN(length+1)), Height: someOf(r, r.IntN(20), r.IntN(api.MaxFeed+1))}
		})
		isOK(t, "Pulses", results(tract.Pulses(stretches...)), modelPulses(stretches))
	})
}

func TestRandomNoise(t *testing.T) {
	forRandom(1000, func(r *rand.Rand) {
		seed, height, n := someOf(r, 1<<32-1, int(r.Uint32())), someOf(r, 0, 1, r.IntN(api.MaxFeed+1)), r.IntN(60)
		isOK(t, "Noise", results(tract.Noise(seed, height, n)), modelNoise(seed, height, n))
	})
}

func TestRandomUtter(t *testing.T) {
	forRandom(600, func(r *rand.Rand) {
		s := randomShape(r, someOf(r, 2, 4, api.MaxSections))
		glottis, noise := randomSources(r, r.IntN(80))
		gestures := randomGestures(r, len(s.Areas), someOf(r, 3, len(glottis)+1, api.MaxSteps))
		at := someOf(r, 0, r.IntN(len(s.Areas)))
		isOK(t, "Utter", results(tract.Utter(s, gestures, glottis, noise, at)), modelUtter(s, gestures, glottis, noise, at))
	})
}
