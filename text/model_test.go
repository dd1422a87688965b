package text_test

import (
	"cmp"
	"slices"
	"strings"
	"unicode/utf8"

	"declaim/api"
	"declaim/numeral"
)

// model reads texts as the chapter's sentences say it, by trying everything.
type model struct {
	g    api.Grammar
	text string
}

func (m *model) ofSort(sort int, character rune) bool {
	for _, s := range m.g.Sorts[sort] {
		if s.From <= character && character <= s.To {
			return true
		}
	}
	return false
}

// divisions lists all divisions of pieces from a byte on, each as the places between the parts, the longest first parts first.
func (m *model) divisions(atoms []api.Atom, at int) [][]int {
	if len(atoms) == 0 {
		return [][]int{{at}}
	}
	var ends []int
	if atoms[0].Text != "" {
		if strings.HasPrefix(m.text[at:], atoms[0].Text) {
			ends = append(ends, at+len(atoms[0].Text))
		}
	} else {
		to := at
		for n := 1; n <= atoms[0].Most && to < len(m.text); n++ {
			character, size := utf8.DecodeRuneInString(m.text[to:])
			if !m.ofSort(atoms[0].Sort, character) {
				break
			}
			to += size
			if n >= atoms[0].Least {
				ends = append([]int{to}, ends...)
			}
		}
	}
	var all [][]int
	for _, end := range ends {
		for _, rest := range m.divisions(atoms[1:], end) {
			all = append(all, append([]int{at}, rest...))
		}
	}
	return all
}

func (m *model) sides(sides []int, edge bool, neighbor rune) bool {
	for _, side := range sides {
		if side == -1 && edge || side >= 0 && !edge && m.ofSort(side, neighbor) {
			return true
		}
	}
	return len(sides) == 0
}

// fits lists the steps with a convention from a byte on.
func (m *model) fits(convention, at int) []api.Step {
	c := m.g.Conventions[convention]
	before, _ := utf8.DecodeLastRuneInString(m.text[:at])
	if !m.sides(c.Before, at == 0, before) {
		return nil
	}
	taken := map[int]bool{}
	var steps []api.Step
	for _, division := range m.divisions(c.Pattern, at) {
		to := division[len(division)-1]
		if taken[to] {
			continue
		}
		taken[to] = true
		behind, _ := utf8.DecodeRuneInString(m.text[to:])
		if !m.sides(c.After, to == len(m.text), behind) {
			continue
		}
		var groups []string
		for i, atom := range c.Pattern {
			if atom.Text == "" {
				groups = append(groups, m.text[division[i]:division[i+1]])
			}
		}
		if words, ok := m.says(c.Says, groups); ok {
			steps = append(steps, api.Step{Convention: convention, From: at, To: to, Words: words})
		}
	}
	slices.SortFunc(steps, func(a, b api.Step) int { return cmp.Compare(a.To, b.To) })
	return steps
}

func (m *model) says(all []api.Say, groups []string) ([]string, bool) {
	var words []string
	for i, say := range all {
		more, ok := m.say(say, all[i+1:], groups)
		if !ok {
			return nil, false
		}
		words = append(words, more...)
	}
	return words, true
}

func numberIn(group string) (int, bool) {
	n := 0
	for _, b := range []byte(group) {
		if b < '0' || b > '9' || len(group) > 12 {
			return 0, false
		}
		n = 10*n + int(b-'0')
	}
	return n, true
}

func (m *model) say(say api.Say, later []api.Say, groups []string) ([]string, bool) {
	switch say.Kind {
	case api.SayWords:
		return say.Words, true
	case api.SayNumber:
		n, ok := numberIn(groups[say.Group])
		gender := say.Gender
		if gender == -1 {
			gender = m.genderOf(later, groups)
		}
		words, e := numeral.Spell(m.g.System, api.Ask{Number: n, Set: say.Set, Gender: gender, Case: say.Case})
		return words, ok && e == api.OK
	case api.SayDigits:
		var words []string
		for _, digit := range strings.Split(groups[say.Group], "") {
			n, ok := numberIn(digit)
			more, e := numeral.Spell(m.g.System, api.Ask{Number: n, Set: say.Set, Gender: say.Gender, Case: say.Case})
			if !ok || e != api.OK {
				return nil, false
			}
			words = append(words, more...)
		}
		return words, true
	case api.SayEcho:
		group := groups[say.Group]
		return []string{group}, len(group) <= 40 && !strings.ContainsFunc(group, func(r rune) bool { return r < 33 })
	case api.SayRow:
		for _, row := range m.g.Tables[say.Table] {
			if row.Text == groups[say.Group] {
				return row.Words, true
			}
		}
		return nil, false
	}
	return m.counted(say, groups)
}

func (m *model) counted(say api.Say, groups []string) ([]string, bool) {
	n, ok := numberIn(groups[say.Group])
	if !ok || n > m.g.System.Top {
		return nil, false
	}
	class, _ := numeral.Class(m.g.System, n)
	term := m.g.System.Terms[say.Term]
	for _, f := range term.Forms {
		if (f.Gender == -1 || f.Gender == term.Gender) && (f.Case == -1 || f.Case == say.Case) && (f.Class == -1 || f.Class == class) {
			return []string{f.Text}, true
		}
	}
	return nil, false
}

func (m *model) genderOf(later []api.Say, groups []string) int {
	for i, say := range later {
		if say.Kind == api.SayNumber || say.Kind == api.SayDigits || say.Kind == api.SayEcho {
			continue
		}
		words, _ := m.say(say, later[i+1:], groups)
		for _, word := range words {
			for _, noun := range m.g.Nouns {
				if noun.Word == word {
					return noun.Gender
				}
			}
		}
	}
	return 0
}

// places lists the places of the text.
func (m *model) places() []int {
	var places []int
	for at := range m.text {
		places = append(places, at)
	}
	return append(places, len(m.text))
}

// lists lists all lists of steps from a byte on to any place.
func (m *model) lists(at int) [][]api.Step {
	all := [][]api.Step{nil}
	for convention := range m.g.Conventions {
		for _, step := range m.fits(convention, at) {
			for _, rest := range m.lists(step.To) {
				all = append(all, append([]api.Step{step}, rest...))
			}
		}
	}
	return all
}

func (m *model) beside(left, right int) int {
	cost := 0
	for _, c := range m.g.Contexts {
		if (c.Left == -1 || c.Left == left) && (c.Right == -1 || c.Right == right) {
			cost += c.Cost
		}
	}
	return cost
}

// cost is that of steps behind a convention (-1: at the beginning).
func (m *model) cost(last int, steps []api.Step) int {
	cost := 0
	for _, step := range steps {
		cost += m.g.Conventions[step.Convention].Cost
		if last != -1 {
			cost += m.beside(last, step.Convention)
		}
		last = step.Convention
	}
	return cost
}

func end(at int, steps []api.Step) int {
	if len(steps) > 0 {
		return steps[len(steps)-1].To
	}
	return at
}

// toEnd lists the lists of steps that lead to the end.
func (m *model) toEnd(at int) [][]api.Step {
	return slices.DeleteFunc(m.lists(at), func(steps []api.Step) bool { return end(at, steps) != len(m.text) })
}

// readings lists all readings in order.
func (m *model) readings() []api.Reading {
	var readings []api.Reading
	for _, steps := range m.toEnd(0) {
		readings = append(readings, api.Reading{Steps: steps, Cost: m.cost(-1, steps)})
	}
	slices.SortFunc(readings, func(a, b api.Reading) int {
		return cmp.Or(cmp.Compare(a.Cost, b.Cost), slices.CompareFunc(a.Steps, b.Steps, func(s, u api.Step) int {
			return cmp.Or(cmp.Compare(s.Convention, u.Convention), cmp.Compare(s.To, u.To))
		}))
	})
	return readings
}

func (m *model) gap() int {
	gap := 0
	for _, steps := range m.lists(0) {
		gap = max(gap, end(0, steps))
	}
	return gap
}

// certificate is what Best should return, for a text that has a reading.
func (m *model) certificate() []api.Value {
	rests := map[api.Value]int{}
	arrive := func(at, last int) {
		for i, steps := range m.toEnd(at) {
			key, cost := api.Value{At: at, Last: last}, m.cost(last, steps)
			if i > 0 {
				cost = min(cost, rests[key])
			}
			rests[key] = cost
		}
	}
	arrive(0, -1)
	done := map[api.Value]bool{}
	for _, steps := range m.lists(0) {
		for _, step := range steps {
			key := api.Value{At: step.To, Last: step.Convention}
			if !done[key] {
				done[key] = true
				arrive(step.To, step.Convention)
			}
		}
	}
	var values []api.Value
	for key, rest := range rests {
		values = append(values, api.Value{At: key.At, Last: key.Last, Rest: rest})
	}
	slices.SortFunc(values, compareValues)
	return values
}

func compareValues(a, b api.Value) int {
	return cmp.Or(cmp.Compare(a.At, b.At), cmp.Compare(a.Last, b.Last))
}

// holds reads the definition of a certificate sentence by sentence.
func (m *model) holds(cost int, certificate []api.Value) bool {
	rests := map[[2]int]int{}
	for i, v := range certificate {
		if !slices.Contains(m.places(), v.At) || v.Last < -1 || v.Last >= len(m.g.Conventions) || v.Last == -1 && v.At != 0 || v.Rest < 0 {
			return false
		}
		if i > 0 && compareValues(certificate[i-1], v) >= 0 {
			return false
		}
		if v.At == len(m.text) && v.Rest != 0 {
			return false
		}
		rests[[2]int{v.At, v.Last}] = v.Rest
	}
	if rest, ok := rests[[2]int{0, -1}]; !ok || rest < cost {
		return false
	}
	for _, v := range certificate {
		for convention, c := range m.g.Conventions {
			for _, step := range m.fits(convention, v.At) {
				if len(m.toEnd(step.To)) == 0 {
					continue
				}
				price := c.Cost
				if v.Last != -1 {
					price += m.beside(v.Last, convention)
				}
				other, ok := rests[[2]int{step.To, convention}]
				if !ok || v.Rest-other > price {
					return false
				}
			}
		}
	}
	return true
}

// rivals lists what other readings do at the steps of the first one.
func (m *model) rivals() []api.Rival {
	readings := m.readings()
	var rivals []api.Rival
	for i, step := range readings[0].Steps {
		least := map[[2]int]int{}
		for _, r := range slices.Backward(readings) { // the cheapest one comes last
			if len(r.Steps) > i && slices.EqualFunc(r.Steps[:i], readings[0].Steps[:i], sameStep) && !sameStep(r.Steps[i], step) {
				least[[2]int{r.Steps[i].Convention, r.Steps[i].To}] = r.Cost
			}
		}
		first := len(rivals)
		for key, cost := range least {
			rivals = append(rivals, api.Rival{From: step.From, To: key[1], Convention: key[0], Loss: cost - readings[0].Cost})
		}
		slices.SortFunc(rivals[first:], func(a, b api.Rival) int {
			return cmp.Or(cmp.Compare(a.Convention, b.Convention), cmp.Compare(a.To, b.To))
		})
	}
	return rivals
}

func sameStep(a, b api.Step) bool {
	return a.Convention == b.Convention && a.From == b.From && a.To == b.To && slices.Equal(a.Words, b.Words)
}

func sameReading(a, b api.Reading) bool {
	return a.Cost == b.Cost && slices.EqualFunc(a.Steps, b.Steps, sameStep)
}
