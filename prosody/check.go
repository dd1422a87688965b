package prosody

import (
	"slices"

	"declaim/api"
)

const (
	mostSonority = 9
	mostOnset    = 4  // phones of an onset
	mostHeavy    = 60 // syllables of a word that is stressed
	mostSkip     = 2
	mostPlace    = 5
	mostBeats    = 20 // syllables of a word of a sentence
	mostGap      = 20
	mostBound    = 400 // of a constraint
	mostUsual    = 2000
	mostCluster  = 9
	mostLimit    = 9    // bound of a rule for durations
	mostPercent  = 1000 // of a rule for durations
	mostSprings  = 200  // durations that are stretched
	mostDuration = 10000
	mostStiff    = 1000
)

func between(n, least, most int) bool { return least <= n && n <= most }

// allBetween reports whether no number of a list is out of range.
func allBetween(list []int, least, most int) bool {
	return !slices.ContainsFunc(list, func(n int) bool { return !between(n, least, most) })
}

func soundsRight(s api.Sounds) bool {
	return between(len(s.Sonority), 1, api.MaxPhoneId) && allBetween(s.Sonority, 0, mostSonority) && between(s.Peak, 0, mostSonority) &&
		len(s.Onsets) <= api.MaxOnsets && !slices.ContainsFunc(s.Onsets, func(onset []int) bool { return !onsetRight(s, onset) })
}

func onsetRight(s api.Sounds, onset []int) bool {
	return between(len(onset), 1, mostOnset) && allBetween(onset, 1, len(s.Sonority)) &&
		!slices.ContainsFunc(onset, func(phone int) bool { return isNucleus(s, phone) })
}

func phonesRight(s api.Sounds, phones []int) bool {
	return len(phones) <= api.MaxPhoneList && allBetween(phones, 1, len(s.Sonority))
}

func styleRight(t api.StressStyle) bool {
	return between(t.Skip, 0, mostSkip) && between(t.Place, 0, mostPlace) && (t.Step == 0 || t.Step == 2 || t.Step == 3)
}

func sentenceRight(words []api.SpokenWord) bool {
	return len(words) <= api.MaxSpokenW && !slices.ContainsFunc(words, wordWrong)
}

// wordWrong examines the gap of the last word of a sentence, too, although nothing else does.
func wordWrong(w api.SpokenWord) bool {
	return !between(w.Syllables, 1, mostBeats) || !between(w.Stressed, -1, w.Syllables-1) || !between(w.Gap, 0, mostGap)
}

func breaksRight(words []api.SpokenWord, breaks []int) bool {
	return len(breaks) == gaps(words) && allBetween(breaks, none, major)
}

func ranksRight(ranks []api.Rank) bool {
	return len(ranks) <= api.MaxRanks && !slices.ContainsFunc(ranks, rankWrong)
}

func rankWrong(r api.Rank) bool {
	return r.Kind < api.RankLong || r.Kind > api.RankBreaks || !between(r.Level, minor, major) || !between(r.Bound, 0, mostBound)
}

func actRight(act api.Act) bool { return api.ActState <= act && act <= api.ActCall }

func timedRight(p api.Timed) bool {
	return between(p.Least, 1, mostUsual) && between(p.Usual, p.Least, mostUsual) && between(p.Final, none, major) && between(p.Cluster, 0, mostCluster)
}

func rulesRight(rules []api.DurationRule) bool {
	return len(rules) <= api.MaxDurations && !slices.ContainsFunc(rules, ruleWrong)
}

func ruleWrong(r api.DurationRule) bool {
	return r.Kind < api.DurationStressed || r.Kind > api.DurationCluster || !between(r.Bound, 0, mostLimit) || !between(r.Percent, 1, mostPercent)
}

// springsRight checks what Stretch and Settled share.
func springsRight(durations, least, stiff []int) bool {
	return len(durations) <= mostSprings && len(durations) == len(least) && len(durations) == len(stiff) &&
		allBetween(durations, 0, mostDuration) && allBetween(least, 0, mostDuration) && allBetween(stiff, 1, mostStiff)
}

// lengthsRight reports whether durations can have been stretched to lengths.
func lengthsRight(least, lengths []int) bool {
	if len(least) != len(lengths) {
		return false
	}
	for i, length := range lengths {
		if !between(length, least[i], api.MaxStretch) {
			return false
		}
	}
	return true
}
