package tract

import (
	"slices"

	"declaim/api"
)

const (
	mostBack      = 99 // percent of a wave that an end throws back
	mostMeeting   = 10 // sections at a joint of Scatter
	mostWave      = 1 << 30
	farthest      = 1000000000 // place of a follower
	mostSpeed     = 1000
	mostPlaces    = 200000 // sections at all times of a score
	mostStretches = 200
	mostPeriods   = 1000
	lastSeed      = 1<<32 - 1
)

func between(n, least, most int) bool { return least <= n && n <= most }

// argument returns the error of arguments.
func argument(right bool) api.Errno {
	if right {
		return api.OK
	}
	return api.ErrArg
}

func areaWrong(area int) bool { return !between(area, 1, api.MaxArea) }

func areasRight(areas []int) bool {
	return len(areas) <= api.MaxSections && !slices.ContainsFunc(areas, areaWrong)
}

func speedRight(speed int) bool { return between(speed, 1, mostSpeed) }

func shapeRight(s api.Shape) bool {
	lastJoint, mostNose := 0, 0
	if len(s.Branch) > 0 {
		lastJoint, mostNose = len(s.Areas)-2, mostBack
	}
	return len(s.Areas) > 0 && areasRight(s.Areas) && areasRight(s.Branch) && between(s.Joint, 0, lastJoint) &&
		between(s.Glottis, 0, mostBack) && between(s.Lips, 0, mostBack) && between(s.Nose, 0, mostNose)
}

func meetingRight(areas, waves []int) bool {
	return between(len(areas), 1, mostMeeting) && len(waves) == len(areas) && !slices.ContainsFunc(areas, areaWrong) &&
		!slices.ContainsFunc(waves, func(w int) bool { return !between(w, -mostWave, mostWave) })
}

// feedsRight examines feeds of so many sections.
func feedsRight(feeds []api.Feed, sections int) bool {
	var fed [api.MaxSections]bool
	sum := 0
	for _, f := range feeds {
		if !between(f.Section, 0, sections-1) || fed[f.Section] || !feedRight(f.Amount) {
			return false
		}
		fed[f.Section] = true
		sum += size(f.Amount)
	}
	return sum <= api.MaxFeed
}

func feedRight(amount int) bool { return between(amount, -api.MaxFeed, api.MaxFeed) }

// size is a number without its sign.
func size(n int) int { return max(n, -n) }

func scoreRight(s score) bool {
	return len(s.rest) > 0 && areasRight(s.rest) && len(s.gestures) <= api.MaxGestures &&
		!slices.ContainsFunc(s.gestures, func(g api.Gesture) bool { return !gestureRight(g, len(s.rest)) })
}

func gestureRight(g api.Gesture, sections int) bool {
	return between(g.Last, 0, sections-1) && between(g.First, 0, g.Last) && between(g.End, 0, api.MaxSteps) && between(g.Start, 0, g.End-1) &&
		!areaWrong(g.Area) && speedRight(g.Speed)
}

func scoreLong(s score, times int) bool {
	return times > api.MaxSteps || times*len(s.rest) > mostPlaces
}

func stretchesRight(stretches []api.Glottal) bool {
	return len(stretches) <= mostStretches && !slices.ContainsFunc(stretches, stretchWrong)
}

func stretchWrong(g api.Glottal) bool {
	return !between(g.Periods, 1, mostPeriods) || !between(g.Length, 1, api.MaxPeriod) || !between(g.Open, 0, g.Length) || !between(g.Height, 0, api.MaxFeed)
}

func sourcesRight(glottis, noise []int) bool {
	for t, g := range glottis {
		if !feedRight(g) || !feedRight(sampleAt(noise, t)) || size(g)+size(sampleAt(noise, t)) > api.MaxFeed {
			return false
		}
	}
	return len(noise) <= len(glottis)
}
