package stream

import (
	"slices"

	"declaim/api"
)

const (
	loudest     = 32767
	mostPeriods = 1000
	mostName    = 40 // bytes of the name of a sign
	fastest     = 8  // Num and Den of a pace
	mostMade    = 1 << 40
	mostJobs    = 1000
)

func between(n, least, most int) bool { return least <= n && n <= most }

func speakerRight(voice int) bool { return between(voice, 1, api.MaxSpeaker) }

func speechRight(s api.Speech) bool {
	return speakerRight(s.Voice) && speakerRight(s.Use) && between(s.Effort, 0, api.MaxEffort) &&
		len(s.Samples) <= api.MaxSpoken && !slices.ContainsFunc(s.Samples, sampleWrong) &&
		periodsRight(s.Periods, len(s.Samples)) && signsRight(s.Signs, len(s.Samples))
}

func sampleWrong(sample int) bool { return !between(sample, -loudest-1, loudest) }

// periodsRight examines the periods of so many samples.
func periodsRight(periods []int, samples int) bool {
	least := 0
	for _, begin := range periods {
		if !between(begin, least, samples-1) {
			return false
		}
		least = begin + 1
	}
	return len(periods) <= mostPeriods
}

// signsRight examines the signs of so many samples.
func signsRight(signs []api.Sign, samples int) bool {
	least := 0
	for _, sign := range signs {
		if !between(sign.At, least, samples) || !nameRight(sign.Name) {
			return false
		}
		least = sign.At
	}
	return len(signs) <= api.MaxCues
}

func nameRight(name string) bool {
	for i := range len(name) {
		if !between(int(name[i]), ' ', '~') {
			return false
		}
	}
	return between(len(name), 1, mostName)
}

func paceRight(p api.Pace) bool { return between(p.Num, 1, fastest) && between(p.Den, 1, fastest) }

func clockRight(t int) bool { return between(t, 0, api.MaxClock) }

func grantRight(g api.Grant) bool {
	return speakerRight(g.Voice) && (g.Use == 0 || speakerRight(g.Use)) &&
		clockRight(g.From) && between(g.Until, g.From, api.MaxClock) && clockRight(g.Budget)
}

func askRight(voice, use, n, t int) bool {
	return speakerRight(voice) && speakerRight(use) && clockRight(n) && clockRight(t)
}

func jobsRight(power int, jobs []api.Job) bool {
	return between(power, 1, api.MaxEffort) && len(jobs) <= mostJobs && !slices.ContainsFunc(jobs, jobWrong)
}

func jobWrong(j api.Job) bool { return !between(j.Effort, 0, api.MaxEffort) || !clockRight(j.Due) }
