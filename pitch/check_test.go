package pitch_test

import (
	"slices"
	"testing"

	"declaim/api"
	"declaim/pitch"
)

const (
	least    = -1 << 63
	greatest = 1<<63 - 1
)

// judge checks that a call is refused, or that it is not.
func judge(t *testing.T, name string, valid bool, got []any) {
	t.Helper()
	if !valid {
		isError(t, name, got, api.ErrArg)
	} else if e := got[len(got)-1]; e != api.OK {
		t.Errorf("%s: error %d", name, e)
	}
}

// judgeNumbers checks the bounds of a number from both sides.
func judgeNumbers(t *testing.T, name string, from, to int, call func(n int) []any) {
	t.Helper()
	for _, n := range []int{from, to} {
		judge(t, name, true, call(n))
	}
	for _, n := range []int{from - 1, to + 1, least, greatest} {
		judge(t, name, false, call(n))
	}
}

// judgeLengths checks the bounds of the length of a list from both sides.
func judgeLengths(t *testing.T, name string, from, to int, call func(n int) []any) {
	t.Helper()
	judge(t, name, true, call(from))
	judge(t, name, true, call(to))
	judge(t, name, false, call(to+1))
	if from > 0 {
		judge(t, name, false, call(from-1))
	}
}

func TestCheckCommands(t *testing.T) {
	call := func(change func(*api.Command)) []any {
		first, c := commandE(), commandE()
		change(&c)
		value, e := pitch.Value(c, 12)
		curve, errno := pitch.Curve(20, 5, first, c)
		if e != errno {
			t.Errorf("errors %d and %d", e, errno)
		}
		return results(value, curve, errno)
	}
	judgeNumbers(t, "At", -api.MaxCurve, api.MaxCurve, func(n int) []any { return call(func(c *api.Command) { c.At = n }) })
	judgeNumbers(t, "Height", -api.MaxHeight, api.MaxHeight, func(n int) []any { return call(func(c *api.Command) { c.Height = n }) })
	judgeLengths(t, "knots", 1, api.MaxKnots, func(n int) []any {
		return call(func(c *api.Command) {
			c.Shape = nil
			for i := range n {
				c.Shape = append(c.Shape, api.Knot{Time: i})
			}
		})
	})
	for i := range commandE().Shape {
		judgeNumbers(t, "Value", -1000, 1000, func(n int) []any { return call(func(c *api.Command) { c.Shape[i].Value = n }) })
	}
	judgeNumbers(t, "the first time", 0, 3, func(n int) []any { return call(func(c *api.Command) { c.Shape[0].Time = n }) })
	judgeNumbers(t, "a time between others", 1, 7, func(n int) []any { return call(func(c *api.Command) { c.Shape[1].Time = n }) })
	judgeNumbers(t, "the last time", 5, api.MaxCurve, func(n int) []any { return call(func(c *api.Command) { c.Shape[2].Time = n }) })
	judgeNumbers(t, "the only time", 0, api.MaxCurve, func(n int) []any { return call(func(c *api.Command) { c.Shape = []api.Knot{{Time: n}} }) })
}

func TestCheckCurve(t *testing.T) {
	judgeNumbers(t, "a time", -api.MaxCurve, 2*api.MaxCurve, func(n int) []any { return results(pitch.Value(commandE(), n)) })
	judgeNumbers(t, "n", 0, api.MaxCurve, func(n int) []any { return results(pitch.Curve(n, 0, commandE())) })
	judgeNumbers(t, "base", -api.MaxHeight, api.MaxHeight, func(n int) []any { return results(pitch.Curve(5, n, commandE())) })
	judgeLengths(t, "commands", 0, api.MaxCommands, func(n int) []any {
		return results(pitch.Curve(5, 0, slices.Repeat([]api.Command{commandE()}, n)...))
	})
	judge(t, "a wrong command without values", false, results(pitch.Curve(0, 0, api.Command{})))
}

// judgeProblem judges all calls with a problem; a contour of it is made of Low.
func judgeProblem(t *testing.T, name string, valid bool, p api.Contour) {
	t.Helper()
	contour := slices.Repeat([]int{p.Low}, min(max(p.Frames, 0), 1000))
	judge(t, name, valid, results(pitch.Best(p)))
	judge(t, name, valid, results(pitch.Cost(p, contour)))
	judge(t, name, valid, results(pitch.Settled(p, contour)))
}

func TestCheckProblems(t *testing.T) {
	change := func(name string, from, to int, change func(p *api.Contour, n int)) {
		t.Helper()
		for _, n := range []int{from, to, from - 1, to + 1, least, greatest} {
			p := problemE()
			change(&p, n)
			judgeProblem(t, name, from <= n && n <= to, p)
		}
	}
	change("Frames", 3, api.MaxFrames, func(p *api.Contour, n int) { p.Frames = n }) // a target is at 2
	change("Frames without targets", 1, api.MaxFrames, func(p *api.Contour, n int) { p.Frames, p.Targets = n, nil })
	change("Low", 10-api.MaxRange, 10, func(p *api.Contour, n int) { p.Low = n })
	change("High", 0, api.MaxRange, func(p *api.Contour, n int) { p.High = n })
	change("Low and High", -api.MaxHeight, api.MaxHeight, func(p *api.Contour, n int) { p.Low, p.High = n, n })
	change("the lowest range", -api.MaxHeight, -api.MaxHeight+10, func(p *api.Contour, n int) { p.Low, p.High = n, 10-api.MaxHeight })
	change("the highest range", api.MaxHeight-10, api.MaxHeight, func(p *api.Contour, n int) { p.Low, p.High = api.MaxHeight-10, n })
	change("Slope", 0, api.MaxRange, func(p *api.Contour, n int) { p.Slope = n })
	change("Smooth", 0, 1000, func(p *api.Contour, n int) { p.Smooth = n })
	for i := range problemE().Targets {
		change("Time", 0, 2, func(p *api.Contour, n int) { p.Targets[i].Time = n })
		change("Value", -2*api.MaxHeight, 2*api.MaxHeight, func(p *api.Contour, n int) { p.Targets[i].Value = n })
		change("Weight", 0, 1000, func(p *api.Contour, n int) { p.Targets[i].Weight = n })
	}
	for n, valid := range map[int]bool{0: true, api.MaxTargets: true, api.MaxTargets + 1: false} {
		p := problemE()
		p.Targets = slices.Repeat(p.Targets[:1], n)
		judgeProblem(t, "targets", valid, p)
	}
}

func TestCheckContours(t *testing.T) {
	all := func(name string, valid bool, p api.Contour, v []int) {
		t.Helper()
		judge(t, name, valid, results(pitch.Cost(p, v)))
		judge(t, name, valid, results(pitch.Settled(p, v)))
	}
	for n := range 6 {
		all("length", n == 3, problemE(), make([]int, n))
	}
	for i := range 3 {
		flat := problemE()
		flat.Slope = 400
		for _, n := range []int{0, 10, -1, 11, least, greatest} {
			all("value", 0 <= n && n <= 10, flat, changed([]int{5, 5, 5}, i, func(v *int) { *v = n }))
		}
		for n := range 11 {
			all("slope", 3 <= n && n <= 7, problemE(), changed([]int{5, 5, 5}, i, func(v *int) { *v = n }))
		}
	}
	steep := problemE()
	steep.Slope = 0
	all("slope 0", true, steep, []int{4, 4, 4})
	all("slope 0", false, steep, []int{4, 4, 5})
	all("slope 0", false, steep, []int{4, 3, 3})
}

func TestCheckFrequency(t *testing.T) {
	judgeNumbers(t, "cents", 0, api.MaxCents, func(n int) []any { return results(pitch.Frequency(n)) })
}

func TestCheckPulses(t *testing.T) {
	call := func(rate int, frequencies ...int) []any {
		samples, e := pitch.Pulses(rate, frequencies)
		count, phase, errno := pitch.Count(rate, frequencies)
		if e != errno {
			t.Errorf("errors %d and %d", e, errno)
		}
		return results(samples, count, phase, errno)
	}
	judgeNumbers(t, "rate", 1, api.MaxHertz, func(n int) []any { return call(n, 0, 0) })
	judgeNumbers(t, "rate of no samples", 1, api.MaxHertz, func(n int) []any { return call(n) })
	judgeNumbers(t, "rate of 3000", 6, api.MaxHertz, func(n int) []any { return call(n, 3000) })
	for i := range 3 {
		for _, rate := range []int{1, 10, api.MaxHertz} {
			judgeNumbers(t, "frequency", 0, 500*rate, func(n int) []any {
				return call(rate, changed(make([]int, 3), i, func(f *int) { *f = n })...)
			})
		}
	}
	judgeLengths(t, "samples", 0, api.MaxSamples, func(n int) []any { return call(api.MaxHertz, make([]int, n)...) })
}

func TestCheckNotes(t *testing.T) {
	change := func(name string, from, to int, change func(note *api.Note, n int)) {
		t.Helper()
		for i := range 2 {
			judgeNumbers(t, name, from, to, func(n int) []any {
				notes := slices.Repeat([]api.Note{{Key: 50, Length: 10, Glide: 4, Delay: 5, Depth: 30, Period: 6}}, 2)
				change(&notes[i], n)
				return results(pitch.Sing(notes...))
			})
		}
	}
	change("Key", 0, 119, func(note *api.Note, n int) { note.Key = n })
	change("Length", 5, 1000, func(note *api.Note, n int) { note.Length = n }) // not less than Delay
	change("Length without Glide and Delay", 1, 1000, func(note *api.Note, n int) { note.Length, note.Glide, note.Delay = n, 0, 0 })
	change("Glide", 0, 10, func(note *api.Note, n int) { note.Glide = n })
	change("Delay", 0, 10, func(note *api.Note, n int) { note.Delay = n })
	change("Depth", 0, 200, func(note *api.Note, n int) { note.Depth = n })
	change("Period", 4, 200, func(note *api.Note, n int) { note.Period = n })
	judgeLengths(t, "notes", 0, api.MaxNotes, func(n int) []any { return results(pitch.Sing(slices.Repeat([]api.Note{plainNote(5, 40)}, n)...)) })
	many := slices.Repeat([]api.Note{plainNote(5, 1000)}, 4)
	judge(t, "frames", true, results(pitch.Sing(many...)))
	judge(t, "frames", false, results(pitch.Sing(append(many, plainNote(5, 1))...)))
}
