package pitch_test

import (
	"fmt"
	"math/rand/v2"
	"slices"
	"testing"

	"declaim/api"
	"declaim/pitch"
)

// TestSumOfCurves: the curve of more commands is the sum of the curves of the single ones, if the bases are added; a command that begins later is the same curve, shifted
// (P5.1).
func TestSumOfCurves(t *testing.T) {
	forRandom(300, func(r *rand.Rand) {
		commands := randomCommands(r, fromTo(r, 1, 8))
		n, bases := fromTo(r, 1, 80), 0
		sum := make([]int, n)
		for _, c := range commands {
			base := fromTo(r, -1000, 1000)
			bases += base
			one, e := pitch.Curve(n, base, c)
			isSame(t, "error", e, api.OK)
			for at := range one {
				isSame(t, "one command", one[at], base+valueOf(c, at))
				sum[at] += one[at]
			}
		}
		isOK(t, "sum", results(pitch.Curve(n, bases, commands...)), sum)

		c, later := commands[0], r.IntN(n)
		one, _ := pitch.Curve(n, bases, c)
		c.At += later
		shifted, _ := pitch.Curve(n, bases, c)
		isSame(t, "shifted", shifted[later:], one[:n-later])
	})
}

func valueOf(c api.Command, t int) int {
	value, _ := pitch.Value(c, t)
	return value
}

// TestNoBetterContour: no contour costs less than the best one, which is the first of them; settled contours cost as much, and the best one is settled (P5.2).
func TestNoBetterContour(t *testing.T) {
	forRandom(200, func(r *rand.Rand) {
		p := randomProblem(r, 25, 30)
		best, least, e := pitch.Best(p)
		isSame(t, "error", e, api.OK)
		isOK(t, "Cost", results(pitch.Cost(p, best)), least)
		isOK(t, "Settled", results(pitch.Settled(p, best)), true)
		contour := randomContour(r, p)
		for {
			cost, _ := pitch.Cost(p, contour)
			if cost < least || cost == least && slices.Compare(contour, best) < 0 {
				t.Errorf("%v is better than %v", contour, best)
			}
			settled, _ := pitch.Settled(p, contour)
			if settled {
				isSame(t, "cost of a settled contour", cost, least)
				break
			}
			if contour = modelShift(p, contour); contour == nil {
				t.Fatal("not settled, but no shift makes it cheaper")
			}
		}
	})
}

// TestOctaves: frequencies grow with cents, and an octave more doubles them (P5.3).
func TestOctaves(t *testing.T) {
	before := 0
	for cents := range api.MaxCents + 1 {
		f, _ := pitch.Frequency(cents)
		if f <= before {
			t.Errorf("%d cents: %d after %d", cents, f, before)
		}
		before = f
		isOK(t, "Cents", results(pitch.Cents(f)), cents)
		if cents > api.MaxCents-1200 {
			continue
		}
		if double, _ := pitch.Frequency(cents + 1200); double < 2*f-1 || double > 2*f+1 {
			t.Errorf("%d cents: %d, and an octave more %d", cents, f, double)
		}
	}
}

// TestSums: for each sample, the number of pulses up to it is that of whole cycles in the sum of the frequencies; with all of them and the rate multiplied, pulses stay
// the same (P5.4).
func TestSums(t *testing.T) {
	forRandom(300, func(r *rand.Rand) {
		rate := someOf(r, 1, 7, 8000, 16000)
		frequencies := randomFrequencies(r, r.IntN(80), rate)
		samples, e := pitch.Pulses(rate, frequencies)
		isSame(t, "error", e, api.OK)
		sum, heard := 0, 0
		for i, f := range frequencies {
			sum += f
			if heard < len(samples) && samples[heard] == i {
				heard++
			}
			isSame(t, "pulses", heard, sum/(1000*rate))
			isOK(t, "Count", results(pitch.Count(rate, frequencies[:i+1])), heard, sum%(1000*rate))
		}
		isSame(t, "pulses in all", heard, len(samples))

		times := fromTo(r, 1, 12)
		more := slices.Clone(frequencies)
		for i := range more {
			more[i] *= times
		}
		isOK(t, "all multiplied", results(pitch.Pulses(times*rate, more)), samples)
	})
}

// TestNearKeys: without glide and vibrato, all frames have 100 times the key; each frame is at most Depth away from the keys of its note and the one before, and those
// between them (P5.5).
func TestNearKeys(t *testing.T) {
	forRandom(300, func(r *rand.Rand) {
		notes := manyOf(fromTo(r, 1, 8), func() api.Note { return randomNote(r, 60) })
		all, e := pitch.Sing(notes...)
		isSame(t, "error", e, api.OK)
		at := 0
		for i, n := range notes {
			before := notes[max(0, i-1)].Key
			low, high := 100*min(n.Key, before)-n.Depth, 100*max(n.Key, before)+n.Depth
			for _, cents := range all[at : at+n.Length] {
				if cents < low || cents > high {
					t.Errorf("%d in note %d of %v", cents, i, notes)
				}
			}
			at += n.Length
			notes[i].Glide, notes[i].Depth = 0, 0
		}
		isSame(t, "frames", at, len(all))
		var plain []int
		for _, n := range notes {
			plain = append(plain, slices.Repeat([]int{100 * n.Key}, n.Length)...)
		}
		isOK(t, "plain notes", results(pitch.Sing(notes...)), plain)
	})
}

// TestConsequences: those of P5.6.
func TestConsequences(t *testing.T) {
	forRandom(300, func(r *rand.Rand) {
		p := randomProblem(r, 20, 30)
		best, cost, _ := pitch.Best(p)
		more := fromTo(r, -50, 50)
		raised := p
		raised.Low, raised.High, raised.Targets = p.Low+more, p.High+more, slices.Clone(p.Targets)
		for i := range raised.Targets {
			raised.Targets[i].Value += more
		}
		for i := range best {
			best[i] += more
		}
		isOK(t, "raised", results(pitch.Best(raised)), best, cost)

		flat := p
		flat.Slope = 0
		best, _, _ = pitch.Best(flat)
		isSame(t, "slope 0", best, slices.Repeat(best[:1], p.Frames))
		p.Targets = nil
		isOK(t, "no targets", results(pitch.Best(p)), slices.Repeat([]int{p.Low}, p.Frames), 0)
	})
}

// TestMemory: no argument is changed, and results share no memory with arguments or each other.
func TestMemory(t *testing.T) {
	commands, p, contour := []api.Command{commandE(), commandE()}, problemE(), []int{3, 5, 7}
	frequencies := []int{3000, 4000, 5000, 3000, 3000, 3000}
	notes := []api.Note{plainNote(3, 2), {Key: 5, Length: 4, Glide: 3, Delay: 1, Depth: 20, Period: 5}}
	arguments := func() string { return fmt.Sprint(commands, p, contour, frequencies, notes) }
	before := arguments()
	var lists [][]int
	once := func() string {
		curve, _ := pitch.Curve(20, 5, commands...)
		best, least, _ := pitch.Best(p)
		other, _, _ := pitch.Best(p)
		cost, _ := pitch.Cost(p, contour)
		settled, _ := pitch.Settled(p, contour)
		samples, _ := pitch.Pulses(10, frequencies)
		count, phase, _ := pitch.Count(10, frequencies)
		cents, _ := pitch.Sing(notes...)
		lists = [][]int{curve, best, other, samples, cents}
		return fmt.Sprint(valueOf(commands[0], 12), curve, best, least, cost, settled, samples, count, phase, cents)
	}
	want := once()
	for _, list := range lists {
		if len(list) == 0 {
			t.Error("an empty list")
		}
		for i := range list {
			list[i] = -1000
		}
		_ = append(list, -2000)
	}
	for _, list := range lists {
		if slices.Max(list) > -1000 || slices.Min(list) < -1000 {
			t.Errorf("shared: %v", list)
		}
	}
	isSame(t, "arguments", arguments(), before)
	isSame(t, "results", once(), want)
}

// TestLimits: the longest lists of everything.
func TestLimits(t *testing.T) {
	r := rand.New(rand.NewPCG(1, 2))
	commands := manyOf(api.MaxCommands, func() api.Command {
		c := randomCommand(r, 1, 1)
		c.At, c.Shape = fromTo(r, -api.MaxCurve, api.MaxCurve), nil
		for i := range api.MaxKnots {
			c.Shape = append(c.Shape, api.Knot{Time: 200 * i, Value: fromTo(r, -1000, 1000)})
		}
		return c
	})
	curve, e := pitch.Curve(api.MaxCurve, -api.MaxHeight, commands...)
	if e != api.OK || len(curve) != api.MaxCurve {
		t.Fatalf("Curve: %d values, error %d", len(curve), e)
	}
	for _, at := range []int{0, 1, 2000, api.MaxCurve - 1} {
		want := -api.MaxHeight
		for _, c := range commands {
			want += modelValue(c, at)
		}
		isSame(t, "Curve", curve[at], want)
	}

	frequencies := manyOf(api.MaxSamples, func() int { return r.IntN(500*api.MaxHertz + 1) })
	want, phase := modelPulses(api.MaxHertz, frequencies)
	isOK(t, "Pulses", results(pitch.Pulses(api.MaxHertz, frequencies)), want)
	isOK(t, "Count", results(pitch.Count(api.MaxHertz, frequencies)), len(want), phase)

	notes := manyOf(api.MaxNotes, func() api.Note { return randomNote(r, api.MaxCurve/api.MaxNotes) })
	isOK(t, "Sing", results(pitch.Sing(notes...)), modelSing(notes))
}

// TestGreatestCost: the sum of all costs at their bounds.
func TestGreatestCost(t *testing.T) {
	p := api.Contour{Frames: api.MaxFrames, Low: api.MaxHeight - api.MaxRange, High: api.MaxHeight, Slope: api.MaxRange, Smooth: 1000}
	p.Targets = slices.Repeat([]api.Target{{Time: 1, Value: -2 * api.MaxHeight, Weight: 1000}}, api.MaxTargets)
	zigzag := slices.Repeat([]int{p.Low, p.High}, api.MaxFrames/2)
	isOK(t, "Cost", results(pitch.Cost(p, zigzag)), 200*1000*300000*300000+199*1000*400*400)
	isOK(t, "Settled", results(pitch.Settled(p, zigzag)), false)
	isOK(t, "Best", results(pitch.Best(p)), slices.Repeat([]int{p.Low}, api.MaxFrames), 200*1000*299600*299600)
}

// oddNumber is at a bound, near one, or anywhere.
func oddNumber(r *rand.Rand) int {
	if isChance(r, 3) {
		return int(r.Uint64())
	}
	return someOf(r, least, -200001, -100001, -4001, -2, -1, 0, 0, 1, 1, 2, 2, 3, 4, 5, 119, 120, 200, 201, 400, 401, 1000, 1001, 4000, 4001, 8001, 12001, 100001, greatest)
}

// TestAnyValue: every function returns for all arguments, with zero values if there is an error.
func TestAnyValue(t *testing.T) {
	right := 0
	forRandom(20000, func(r *rand.Rand) {
		number := func() int {
			if isChance(r, 93) {
				return r.IntN(3)
			}
			return oddNumber(r)
		}
		numbers := func() []int { return manyOf(r.IntN(4), number) }
		command := func() api.Command {
			shape := manyOf(r.IntN(3), func() api.Knot { return api.Knot{Time: number(), Value: number()} })
			return api.Command{At: number(), Height: number(), Shape: shape}
		}
		p := api.Contour{Frames: number(), Low: number(), High: number(), Slope: number(), Smooth: number()}
		p.Targets = manyOf(r.IntN(3), func() api.Target { return api.Target{Time: number(), Value: number(), Weight: number()} })
		note := func() api.Note {
			return api.Note{Key: number(), Length: number(), Glide: number(), Delay: number(), Depth: number(), Period: 4 + number()}
		}
		for i, got := range [][]any{
			results(pitch.Value(command(), number())),
			results(pitch.Curve(number(), number(), manyOf(r.IntN(3), command)...)),
			results(pitch.Best(p)),
			results(pitch.Cost(p, numbers())),
			results(pitch.Settled(p, numbers())),
			results(pitch.Frequency(number())),
			results(pitch.Cents(someOf(r, 27500, 1) * number())),
			results(pitch.Pulses(number(), numbers())),
			results(pitch.Count(number(), numbers())),
			results(pitch.Sing(manyOf(r.IntN(3), note)...)),
		} {
			if e := got[len(got)-1].(api.Errno); e != api.OK {
				isError(t, fmt.Sprint("call ", i), got, e)
			} else {
				right++
			}
		}
	})
	if right < 10000 {
		t.Errorf("only %d without an error", right)
	}
}
