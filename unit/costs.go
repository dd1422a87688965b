package unit

import "declaim/api"

// voicing is how far pitches are apart of which exactly one is without voice.
const voicing = 2000

func apart(a, b int) int { return max(a-b, b-a) }

// distance is that of two vectors of the same length.
func distance(a, b []int) int {
	sum := 0
	for i, element := range a {
		sum += apart(element, b[i])
	}
	return sum
}

// spoken is the target that a unit is exactly like.
func spoken(u *api.Unit) api.Wanted {
	return api.Wanted{Phone: u.Phone, Before: u.Before, After: u.After, Pitch: u.Pitch, Length: u.Length}
}

// targetCost is what it costs that something with the phone of a target is said instead of it.
func targetCost(said, t api.Wanted, w api.Weights) int {
	cost := w.Length * apart(said.Length, t.Length)
	if said.Before != t.Before {
		cost += w.Beside
	}
	if said.After != t.After {
		cost += w.Beside
	}
	switch {
	case said.Pitch != 0 && t.Pitch != 0:
		cost += w.Pitch * apart(said.Pitch, t.Pitch)
	case said.Pitch != t.Pitch:
		cost += w.Pitch * voicing
	}
	return cost
}

// joinCost is what b costs after a.
func joinCost(a, b *api.Unit, w api.Weights) int {
	if a.Take == b.Take && a.To == b.From {
		return 0
	}
	return w.Join * distance(a.End, b.Begin)
}

// sequenceCost is the cost of a sequence for targets.
func sequenceCost(voice []api.Unit, t []api.Wanted, w api.Weights, units []int) int {
	cost := 0
	for i, u := range units {
		cost += targetCost(spoken(&voice[u]), t[i], w)
		if i > 0 {
			cost += joinCost(&voice[units[i-1]], &voice[u], w)
		}
	}
	return cost
}
