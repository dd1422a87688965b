package pitch

import (
	"slices"

	"declaim/api"
)

const (
	mostKnot   = 1000 // value of a knot
	mostSmooth = 1000
	mostWeight = 1000
	mostKey    = 119
	mostLength = 1000 // of a note
	mostDepth  = 200
	minPeriod  = 4 // of a vibrato
	mostPeriod = 200
)

func between(n, least, most int) bool { return least <= n && n <= most }

func commandsRight(commands []api.Command) bool {
	return len(commands) <= api.MaxCommands && !slices.ContainsFunc(commands, commandWrong)
}

func commandWrong(c api.Command) bool {
	return !between(c.At, -api.MaxCurve, api.MaxCurve) || !between(c.Height, -api.MaxHeight, api.MaxHeight) || !shapeRight(c.Shape)
}

func shapeRight(shape []api.Knot) bool {
	if !between(len(shape), 1, api.MaxKnots) {
		return false
	}
	earliest := 0
	for _, knot := range shape {
		if !between(knot.Time, earliest, api.MaxCurve) || !between(knot.Value, -mostKnot, mostKnot) {
			return false
		}
		earliest = knot.Time + 1
	}
	return true
}

func problemRight(p api.Contour) bool {
	return between(p.Frames, 1, api.MaxFrames) && between(p.Low, -api.MaxHeight, api.MaxHeight) &&
		between(p.High, p.Low, min(p.Low+api.MaxRange, api.MaxHeight)) && between(p.Slope, 0, api.MaxRange) && between(p.Smooth, 0, mostSmooth) &&
		len(p.Targets) <= api.MaxTargets && !slices.ContainsFunc(p.Targets, func(t api.Target) bool { return !targetRight(p, t) })
}

func targetRight(p api.Contour, t api.Target) bool {
	return between(t.Time, 0, p.Frames-1) && between(t.Value, -2*api.MaxHeight, 2*api.MaxHeight) && between(t.Weight, 0, mostWeight)
}

func contourRight(p api.Contour, contour []int) bool {
	if len(contour) != p.Frames {
		return false
	}
	for i, v := range contour {
		if !between(v, p.Low, p.High) || i > 0 && !between(v-contour[i-1], -p.Slope, p.Slope) {
			return false
		}
	}
	return true
}

func samplesRight(rate int, frequencies []int) bool {
	return between(rate, 1, api.MaxHertz) && len(frequencies) <= api.MaxSamples &&
		!slices.ContainsFunc(frequencies, func(f int) bool { return !between(f, 0, cycle(rate)/2) })
}

func notesRight(notes []api.Note) bool {
	return len(notes) <= api.MaxNotes && !slices.ContainsFunc(notes, noteWrong) && frames(notes) <= api.MaxCurve
}

func noteWrong(n api.Note) bool {
	return !between(n.Key, 0, mostKey) || !between(n.Length, 1, mostLength) || !between(n.Glide, 0, n.Length) || !between(n.Delay, 0, n.Length) ||
		!between(n.Depth, 0, mostDepth) || !between(n.Period, minPeriod, mostPeriod)
}
