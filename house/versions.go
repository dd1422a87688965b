package house

import (
	"slices"

	"declaim/api"
	"declaim/text"
)

func changes(a, b []int, distance int) []api.Change {
	var groups []api.Change
	for place := range max(len(a), len(b)) {
		most := 0
		if place < min(len(a), len(b)) {
			most = max(a[place]-b[place], b[place]-a[place])
			if most == 0 {
				continue
			}
		}
		last := len(groups) - 1
		if last < 0 || place-(groups[last].To-1) > distance {
			groups = append(groups, api.Change{From: place})
			last++
		}
		groups[last].To, groups[last].Most = place+1, max(groups[last].Most, most)
	}
	return groups
}

func blame(versions []api.Grammar, written string) []int {
	var found []int
	var before []string
	var had api.Errno
	for i, g := range versions {
		words, has := text.Words(g, written)
		if i > 0 && (has != had || !slices.Equal(words, before)) {
			found = append(found, i)
		}
		before, had = words, has
	}
	return found
}

func suspects(g, h api.Grammar, written string) []int {
	steps := slices.Concat(firstSteps(g, written), firstSteps(h, written))
	var found []int
	for i := range max(len(g.Conventions), len(h.Conventions)) {
		isUsed := slices.ContainsFunc(steps, func(s api.Step) bool { return s.Convention == i })
		if isUsed && !bothHave(g, h, i) {
			found = append(found, i)
		}
	}
	return found
}

// firstSteps returns the steps of the first reading, none if there is no reading.
func firstSteps(g api.Grammar, written string) []api.Step {
	readings, _ := text.Readings(g, written, 1)
	if len(readings) == 0 {
		return nil
	}
	return readings[0].Steps
}

// bothHave reports whether two grammars have the same convention at an index.
func bothHave(g, h api.Grammar, index int) bool {
	if index >= min(len(g.Conventions), len(h.Conventions)) {
		return false
	}
	c, d := g.Conventions[index], h.Conventions[index]
	return c.Cost == d.Cost && slices.Equal(c.Pattern, d.Pattern) && slices.EqualFunc(c.Says, d.Says, sameSay) &&
		slices.Equal(c.Before, d.Before) && slices.Equal(c.After, d.After)
}

func sameSay(a, b api.Say) bool {
	return a.Kind == b.Kind && slices.Equal(a.Words, b.Words) && a.Group == b.Group && a.Set == b.Set &&
		a.Gender == b.Gender && a.Case == b.Case && a.Table == b.Table && a.Term == b.Term
}
