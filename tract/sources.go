package tract

import "declaim/api"

// sampleAt returns a sample of a source, and 0 where it has ended.
func sampleAt(samples []int, time int) int {
	if time >= len(samples) {
		return 0
	}
	return samples[time]
}

// samplesOf returns how many samples stretches have together.
func samplesOf(stretches []api.Glottal) int {
	sum := 0
	for _, g := range stretches {
		sum += g.Periods * g.Length
	}
	return sum
}

func pulses(stretches []api.Glottal) []int {
	samples := make([]int, 0, samplesOf(stretches))
	for _, g := range stretches {
		for i := range g.Periods * g.Length {
			samples = append(samples, pulse(g, i%g.Length))
		}
	}
	return samples
}

// pulse returns a sample of a period.
func pulse(g api.Glottal, j int) int {
	if j >= g.Open {
		return 0
	}
	return 4 * g.Height * j * (g.Open - j) / (g.Open * g.Open)
}

func noise(seed uint32, height, n int) []int {
	samples := make([]int, n)
	for i := range samples {
		seed = 1664525*seed + 1013904223
		samples[i] = int(seed>>16)%(2*height+1) - height
	}
	return samples
}
