package tract

import (
	"slices"

	"declaim/api"
)

// shape is how a tube is built: the areas of its sections, those of the branch behind those of the main tube.
type shape struct {
	areas  []int
	main   int // sections of the main tube
	places []place
}

// Tube is a tube with waves.
type Tube struct {
	shape
	waves []wave // the state, and room for the next one; they change places with each step
	steps int
}

func newTube(s api.Shape) *Tube {
	sections := len(s.Areas) + len(s.Branch)
	return &Tube{
		shape: shape{areas: slices.Concat(s.Areas, s.Branch), main: len(s.Areas), places: placesOf(s)},
		waves: make([]wave, 2*sections),
	}
}

func placesOf(s api.Shape) []place {
	lips := len(s.Areas) - 1
	places := []place{end{side{0, backward}, s.Glottis}, end{side{lips, forward}, -s.Lips}}
	for section := range lips {
		sides := joint{{section, forward}, {section + 1, backward}}
		if section == s.Joint && len(s.Branch) > 0 {
			sides = append(sides, side{len(s.Areas), backward})
		}
		places = append(places, sides)
	}
	if len(s.Branch) == 0 {
		return places
	}
	nose := lips + len(s.Branch)
	for section := lips + 1; section < nose; section++ {
		places = append(places, joint{{section, forward}, {section + 1, backward}})
	}
	return append(places, end{side{nose, forward}, -s.Nose})
}

// isNone reports whether there is no tube.
func (t *Tube) isNone() bool { return t == nil || t.main == 0 }

// half is the state after so many steps.
func (t *Tube) half(steps int) []wave {
	n := len(t.areas)
	from := steps % 2 * n
	return t.waves[from : from+n : from+n]
}

func (t *Tube) state() []wave { return t.half(t.steps) }

func (t *Tube) step(feeds ...api.Feed) api.Heard {
	old, next := t.half(t.steps), t.half(t.steps+1)
	for _, p := range t.places {
		p.meet(t.areas, old, next)
	}
	// What is not thrown back at the end of a section is heard there.
	leaving := func(section int) int { return old[section][forward] + next[section][backward] }
	heard := api.Heard{Lips: leaving(t.main - 1)}
	if nose := len(t.areas) - 1; nose >= t.main {
		heard.Nose = leaving(nose)
	}
	for _, f := range feeds {
		next[f.Section][forward] += f.Amount
	}
	t.steps++
	return heard
}

func (t *Tube) change(areas, branch []int) {
	state, changed := t.state(), slices.Concat(areas, branch)
	for section, area := range t.areas {
		if changed[section] <= area {
			continue
		}
		for d, w := range state[section] {
			state[section][d] = w * area / changed[section]
		}
	}
	t.areas = changed
}

func (t *Tube) energy() int {
	sum := 0
	for section, waves := range t.state() {
		for _, w := range waves {
			sum += t.areas[section] * w * w
		}
	}
	return sum
}

// running returns the waves of sections that run in a direction.
func running(sections []wave, d direction) []int {
	waves := make([]int, len(sections))
	for i, w := range sections {
		waves[i] = w[d]
	}
	return waves
}

// utter speaks; feeds of the same section are added to each other.
func utter(s api.Shape, movement score, glottis, noise []int, section int) []api.Heard {
	t := newTube(s)
	heard := make([]api.Heard, len(glottis))
	for time, areas := range movement.moments(len(glottis)) {
		t.change(areas, t.areas[t.main:])
		heard[time] = t.step(api.Feed{Section: 0, Amount: glottis[time]}, api.Feed{Section: section, Amount: sampleAt(noise, time)})
	}
	return heard
}
