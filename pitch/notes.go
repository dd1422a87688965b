package pitch

import "declaim/api"

// A part of a note adds cents to each of its frames.
type part interface {
	cents(frame int) int
}

// A tone is a key that does not change.
type tone int

func (t tone) cents(int) int { return 100 * int(t) }

// A glide comes from as many semitones above the note.
type glide struct {
	above  int
	length int
}

func (g glide) cents(frame int) int {
	if frame >= g.length {
		return 0
	}
	return rounded(100*g.above*(g.length-frame), g.length)
}

// A vibrato goes up from 0, down, and up to 0 again, by straight lines.
type vibrato struct {
	delay  int
	depth  int
	period int
}

func (v vibrato) cents(frame int) int {
	if frame < v.delay {
		return 0
	}
	j := (frame - v.delay) % v.period
	sway := 4 * v.depth * j
	switch {
	case 4*j > 3*v.period:
		sway -= 4 * v.depth * v.period
	case 4*j > v.period:
		sway = 2*v.depth*v.period - sway
	}
	return rounded(sway, v.period)
}

// frames returns how long notes are together.
func frames(notes []api.Note) int {
	sum := 0
	for _, n := range notes {
		sum += n.Length
	}
	return sum
}

func sing(notes []api.Note) []int {
	all := make([]int, 0, frames(notes))
	for i, n := range notes {
		// The first note glides from its own key, which is not heard.
		before := notes[max(i-1, 0)].Key
		parts := []part{tone(n.Key), glide{above: before - n.Key, length: n.Glide}, vibrato{delay: n.Delay, depth: n.Depth, period: n.Period}}
		for frame := range n.Length {
			sum := 0
			for _, p := range parts {
				sum += p.cents(frame)
			}
			all = append(all, sum)
		}
	}
	return all
}
