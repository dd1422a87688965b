package prosody

import (
	"slices"

	"declaim/api"
)

func isNucleus(s api.Sounds, phone int) bool { return s.Sonority[phone-1] >= s.Peak }

func syllables(s api.Sounds, phones []int) []api.Syllable {
	if len(phones) == 0 {
		return nil
	}
	all := []api.Syllable{{Nucleus: -1}}
	for i, phone := range phones {
		last := &all[len(all)-1]
		switch {
		case !isNucleus(s, phone):
		case last.Nucleus < 0:
			last.Nucleus = i
		default:
			last.To = i - onset(s, phones[last.Nucleus+1:i])
			all = append(all, api.Syllable{From: last.To, Nucleus: i})
		}
	}
	all[len(all)-1].To = len(phones)
	return all
}

// onset returns how many phones at the end of those between two nuclei belong to the second one.
func onset(s api.Sounds, phones []int) int {
	longest := 0
	for _, legal := range s.Onsets {
		if before := len(phones) - len(legal); before >= 0 && slices.Equal(phones[before:], legal) {
			longest = max(longest, len(legal))
		}
	}
	return longest
}

// mainStress returns the index of the main stress of a word with syllables.
func mainStress(t api.StressStyle, heavy []bool) int {
	looked := make([]int, len(heavy))
	for i := range looked {
		looked[i] = i
	}
	if t.FromEnd {
		slices.Reverse(looked)
	}
	if len(looked) > t.Skip {
		looked = looked[t.Skip:]
	}
	if i := slices.IndexFunc(looked, func(syllable int) bool { return heavy[syllable] }); t.Heavy && i >= 0 {
		return looked[i]
	}
	return looked[min(t.Place, len(looked)-1)]
}

func sideStresses(t api.StressStyle, main int) []int {
	if t.Step == 0 {
		return nil
	}
	var sides []int
	for side := main % t.Step; side < main; side += t.Step {
		sides = append(sides, side)
	}
	return sides
}
