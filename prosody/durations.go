package prosody

import "declaim/api"

const (
	whole          = 100   // percent
	mostPercentage = 10000 // of all rules together
)

// hundredths divides a number that is not negative by 100 with rounding.
func hundredths(n int) int { return (n + whole/2) / whole }

// conditions returns for each kind of rules whether a rule with a bound concerns a phone.
func conditions(p api.Timed) []func(bound int) bool {
	return []func(bound int) bool{
		api.DurationStressed: func(int) bool { return p.Stressed },
		api.DurationPlain:    func(int) bool { return !p.Stressed },
		api.DurationAccented: func(int) bool { return p.Accented },
		api.DurationFinal:    func(bound int) bool { return p.Final >= bound && p.Final != none },
		api.DurationCluster:  func(bound int) bool { return p.Cluster >= bound },
	}
}

// percentage is that of what a phone usually is longer than its least duration.
func percentage(p api.Timed, rules []api.DurationRule) int {
	percent, holds := whole, conditions(p)
	for _, r := range rules {
		if holds[r.Kind](r.Bound) {
			percent = min(hundredths(percent*r.Percent), mostPercentage)
		}
	}
	return percent
}
