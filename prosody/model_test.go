package prosody_test

import (
	"slices"

	"declaim/api"
)

// The model reads the chapter's definitions word by word and tries everything.

func modelSyllables(s api.Sounds, phones []int) []api.Syllable {
	var nuclei []int
	for i, p := range phones {
		if s.Sonority[p-1] >= s.Peak {
			nuclei = append(nuclei, i)
		}
	}
	if len(phones) == 0 {
		return nil
	}
	if len(nuclei) == 0 {
		return []api.Syllable{{From: 0, Nucleus: -1, To: len(phones)}}
	}
	all := make([]api.Syllable, len(nuclei))
	for k, n := range nuclei {
		all[k] = api.Syllable{From: 0, Nucleus: n, To: len(phones)}
		if k == 0 {
			continue
		}
		before := nuclei[k-1]
		for border := before + 1; border <= n; border++ { // the longest onset first
			onset := phones[border:n]
			if len(onset) == 0 || slices.ContainsFunc(s.Onsets, func(legal []int) bool { return slices.Equal(legal, onset) }) {
				all[k].From, all[k-1].To = border, border
				break
			}
		}
	}
	return all
}

func modelStress(t api.StressStyle, heavy []bool) (int, []int) {
	n := len(heavy)
	at := func(k int) int { // the index of the syllable k in the direction
		if t.FromEnd {
			return n - 1 - k
		}
		return k
	}
	first := 0
	if n > t.Skip {
		first = t.Skip
	}
	main := at(n - 1)
	if first+t.Place < n {
		main = at(first + t.Place)
	}
	if t.Heavy {
		for k := n - 1; k >= first; k-- {
			if heavy[at(k)] {
				main = at(k)
			}
		}
	}
	var sides []int
	if t.Step != 0 {
		for i := main - t.Step; i >= 0; i -= t.Step {
			sides = append([]int{i}, sides...)
		}
	}
	return main, sides
}

// modelPhrases returns the indexes of the words of each phrase.
func modelPhrases(n int, breaks []int, level int) [][]int {
	var all [][]int
	for i := range n {
		if i == 0 || breaks[i-1] >= level {
			all = append(all, nil)
		}
		all[len(all)-1] = append(all[len(all)-1], i)
	}
	return all
}

func modelViolated(words []api.SpokenWord, r api.Rank, breaks []int) int {
	long, short, cut, missed, focus, number := 0, 0, 0, 0, 0, 0
	for _, p := range modelPhrases(len(words), breaks, r.Level) {
		length := 0
		for _, i := range p {
			length += words[i].Syllables
		}
		if length > r.Bound {
			long += length - r.Bound
		}
		if length < r.Bound {
			short += r.Bound - length
		}
	}
	for i, b := range breaks {
		if b >= r.Level {
			number++
			if words[i].Gap < r.Bound {
				cut++
			}
			continue
		}
		if words[i].Gap >= r.Bound {
			missed++
		}
		if words[i].Focus {
			focus++
		}
	}
	return map[api.RankKind]int{api.RankLong: long, api.RankShort: short, api.RankCut: cut, api.RankMissed: missed, api.RankFocus: focus, api.RankBreaks: max(0, number-r.Bound)}[r.Kind]
}

func modelViolations(words []api.SpokenWord, ranks []api.Rank, breaks []int) []int {
	var all []int
	for _, r := range ranks {
		all = append(all, modelViolated(words, r, breaks))
	}
	return all
}

// next changes breaks into the next ones in lexicographic order, or reports that they are the last ones.
func next(breaks []int) bool {
	for i := len(breaks) - 1; i >= 0; i-- {
		if breaks[i] < 2 {
			breaks[i]++
			return true
		}
		breaks[i] = 0
	}
	return false
}

func modelBreak(words []api.SpokenWord, ranks []api.Rank) ([]int, []int) {
	breaks := make([]int, max(0, len(words)-1))
	best, least := slices.Clone(breaks), modelViolations(words, ranks, breaks)
	for next(breaks) {
		if v := modelViolations(words, ranks, breaks); slices.Compare(v, least) < 0 {
			best, least = slices.Clone(breaks), v
		}
	}
	return best, least
}

func modelMarks(words []api.SpokenWord, breaks []int, act api.Act) []api.Mark {
	var all []api.Mark
	for _, p := range modelPhrases(len(words), breaks, 1) {
		var focus, content, stressed []int
		for _, i := range p {
			if words[i].Stressed == -1 {
				continue
			}
			stressed = append(stressed, i)
			if words[i].Content {
				content = append(content, i)
			}
			if words[i].Focus {
				focus = append(focus, i)
			}
		}
		tune := func(i int) api.Tune {
			if words[i].Focus {
				return api.TuneFocus
			}
			return api.TuneAccent
		}
		for _, i := range slices.Concat(first(focus), last(content), last(stressed))[:min(1, len(stressed))] {
			all = append(all, api.Mark{Word: i, Syllable: words[i].Stressed, Tune: tune(i)})
		}
		end := p[len(p)-1]
		var closing api.Tune
		if end == len(words)-1 {
			closing = map[api.Act]api.Tune{api.ActState: api.TuneFall, api.ActAsk: api.TuneRise, api.ActList: api.TuneFall, api.ActCall: api.TuneKeep}[act]
		} else if act == api.ActList {
			closing = api.TuneRise
		} else {
			closing = map[int]api.Tune{1: api.TuneKeep, 2: api.TuneFall}[breaks[end]]
		}
		all = append(all, api.Mark{Word: end, Syllable: words[end].Syllables - 1, Tune: closing})
	}
	return all
}

func first(list []int) []int { return list[:min(1, len(list))] }

func last(list []int) []int { return list[max(0, len(list)-1):] }

// modelRound divides by 100 with rounding.
func modelRound(n int) int {
	if n%100 >= 50 {
		return n/100 + 1
	}
	return n / 100
}

func modelDuration(p api.Timed, rules []api.DurationRule) int {
	percentage := 100
	for _, r := range rules {
		holds := false
		switch r.Kind {
		case api.DurationStressed:
			holds = p.Stressed
		case api.DurationPlain:
			holds = !p.Stressed
		case api.DurationAccented:
			holds = p.Accented
		case api.DurationFinal:
			holds = p.Final != 0 && p.Final >= r.Bound
		case api.DurationCluster:
			holds = p.Cluster >= r.Bound
		}
		if holds {
			percentage = min(10000, modelRound(percentage*r.Percent))
		}
	}
	return p.Least + modelRound(percentage*(p.Usual-p.Least))
}

// squares is the sum that a stretch makes least.
func squares(s stretching, x []int) int {
	total := 0
	for i := range x {
		total += s.stiff[i] * (x[i] - s.durations[i]) * (x[i] - s.durations[i])
	}
	return total
}

// modelStretch tries all lists in lexicographic order.
func modelStretch(s stretching) []int {
	var best []int
	x := make([]int, len(s.least))
	var try func(i, rest int)
	try = func(i, rest int) {
		if i == len(x) {
			if rest == 0 && (best == nil || squares(s, x) < squares(s, best)) {
				best = slices.Clone(x)
			}
			return
		}
		for x[i] = s.least[i]; x[i] <= rest; x[i]++ {
			try(i+1, rest-x[i])
		}
	}
	try(0, s.total)
	return best
}

// modelSettled tries to move a millisecond.
func modelSettled(s stretching, x []int) bool {
	for i := range x {
		for k := range x {
			if i == k || x[i] == s.least[i] {
				continue
			}
			moved := slices.Clone(x)
			moved[i]--
			moved[k]++
			if squares(s, moved) < squares(s, x) {
				return false
			}
		}
	}
	return true
}
