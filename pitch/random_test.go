package pitch_test

import (
	"math/rand/v2"
	"testing"

	"declaim/api"
	"declaim/pitch"
)

// Random arguments have the results of the model.

func TestRandomValue(t *testing.T) {
	inside := 0
	forRandom(6000, func(r *rand.Rand) {
		c := randomCommand(r, 6, 12)
		at := fromTo(r, c.At-5, c.At+someOf(r, 10, 20, 40))
		want := modelValue(c, at)
		isOK(t, "Value", results(pitch.Value(c, at)), want)
		if want != 0 {
			inside++
		}
	})
	if inside < 1500 {
		t.Errorf("only %d values", inside)
	}
}

// TestRandomGreat: fractions with the greatest numbers.
func TestRandomGreat(t *testing.T) {
	forRandom(1000, func(r *rand.Rand) {
		c := randomCommand(r, api.MaxKnots, 190)
		c.At, c.Height = fromTo(r, -api.MaxCurve, api.MaxCurve), fromTo(r, -api.MaxHeight, api.MaxHeight)
		at := fromTo(r, -api.MaxCurve, 2*api.MaxCurve)
		isOK(t, "Value", results(pitch.Value(c, at)), modelValue(c, at))
	})
}

func TestRandomCurve(t *testing.T) {
	forRandom(500, func(r *rand.Rand) {
		commands := randomCommands(r, r.IntN(8))
		n, base := r.IntN(70), fromTo(r, -api.MaxHeight, api.MaxHeight)
		isOK(t, "Curve", results(pitch.Curve(n, base, commands...)), modelCurve(n, base, commands))
	})
}

func TestRandomBest(t *testing.T) {
	forRandom(1500, func(r *rand.Rand) {
		p := randomProblem(r, 5, 6)
		contour, cost := modelBest(p)
		isOK(t, "Best", results(pitch.Best(p)), contour, cost)
		contour, cost = modelRows(p)
		isOK(t, "Best by rows", results(pitch.Best(p)), contour, cost)
	})
}

// TestRandomWide: more frames and values than all contours can be tried for.
func TestRandomWide(t *testing.T) {
	forRandom(300, func(r *rand.Rand) {
		p := randomProblem(r, 30, 50)
		contour, cost := modelRows(p)
		isOK(t, "Best", results(pitch.Best(p)), contour, cost)
	})
}

func TestRandomGreatest(t *testing.T) {
	forRandom(3, func(r *rand.Rand) {
		p := greatestProblem(r)
		contour, cost := modelRows(p)
		isOK(t, "Best", results(pitch.Best(p)), contour, cost)
		isOK(t, "Cost", results(pitch.Cost(p, contour)), cost)
		isOK(t, "Settled", results(pitch.Settled(p, contour)), true)
	})
}

// greatestProblem is as great as the definitions allow.
func greatestProblem(r *rand.Rand) api.Contour {
	p := api.Contour{Frames: api.MaxFrames, Low: someOf(r, -api.MaxHeight, api.MaxHeight-api.MaxRange), Slope: someOf(r, 5, 50, api.MaxRange), Smooth: someOf(r, 0, 1, 1000)}
	p.High = p.Low + api.MaxRange
	p.Targets = manyOf(api.MaxTargets, func() api.Target {
		return api.Target{Time: r.IntN(p.Frames), Value: someOf(r, fromTo(r, p.Low, p.High), someOf(r, -2, 2)*api.MaxHeight), Weight: r.IntN(1001)}
	})
	return p
}

func TestRandomSettled(t *testing.T) {
	seen := map[bool]int{}
	forRandom(3000, func(r *rand.Rand) {
		p := randomProblem(r, 6, 6)
		contour := randomContour(r, p)
		if isChance(r, 50) {
			contour, _, _ = pitch.Best(p)
			i := r.IntN(p.Frames)
			other := changed(contour, i, func(v *int) { *v += fromTo(r, -1, 1) })
			if modelIsContour(p, other) {
				contour = other
			}
		}
		want := modelSettled(p, contour)
		seen[want]++
		isOK(t, "Settled", results(pitch.Settled(p, contour)), want)
		isOK(t, "Cost", results(pitch.Cost(p, contour)), modelCost(p, contour))
	})
	if min(seen[false], seen[true]) < 500 {
		t.Errorf("only %v", seen)
	}
}

func TestAllFrequencies(t *testing.T) {
	for cents, frequency := range allFrequencies() {
		isOK(t, "Frequency", results(pitch.Frequency(cents)), frequency)
		isOK(t, "Cents", results(pitch.Cents(frequency)), cents)
	}
}

func allFrequencies() []int {
	var all []int
	for cents := range api.MaxCents + 1 {
		all = append(all, modelFrequency(cents))
	}
	return all
}

func TestRandomCents(t *testing.T) {
	frequencies := allFrequencies()
	forRandom(3000, func(r *rand.Rand) {
		frequency := someOf(r, fromTo(r, 27000, 40000), fromTo(r, 27500, 30000000), someOf(r, frequencies...)+fromTo(r, -1, 1))
		want := -1
		for want < api.MaxCents && frequencies[want+1] <= frequency {
			want++
		}
		if want < 0 {
			isError(t, "Cents", results(pitch.Cents(frequency)), api.ErrNone)
		} else {
			isOK(t, "Cents", results(pitch.Cents(frequency)), want)
		}
	})
}

func TestRandomPulses(t *testing.T) {
	seen := 0
	forRandom(1500, func(r *rand.Rand) {
		rate := someOf(r, 1, 2, 10, fromTo(r, 1, api.MaxHertz), api.MaxHertz)
		frequencies := randomFrequencies(r, r.IntN(60), rate)
		want, phase := modelPulses(rate, frequencies)
		isOK(t, "Pulses", results(pitch.Pulses(rate, frequencies)), want)
		isOK(t, "Count", results(pitch.Count(rate, frequencies)), len(want), phase)
		seen += len(want)
	})
	if seen < 3000 {
		t.Errorf("only %d pulses", seen)
	}
}

func TestRandomSing(t *testing.T) {
	forRandom(2000, func(r *rand.Rand) {
		notes := manyOf(r.IntN(6), func() api.Note { return randomNote(r, someOf(r, 3, 30, 300)) })
		isOK(t, "Sing", results(pitch.Sing(notes...)), modelSing(notes))
	})
}
