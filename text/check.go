package text

import (
	"unicode/utf8"

	"declaim/api"
	"declaim/numeral"
)

const (
	mostSpans   = 100     // spans of a sort
	mostWords   = 20      // words of a list
	mostLetters = 40      // bytes of a word
	firstByte   = 33      // of the bytes of words; the last one is 255
	mostRepeats = 100     // characters of an atom
	mostSides   = 101     // numbers of Before and After
	mostCost    = 1000000 // of a convention, or of a context
)

// exists reports whether an index is one of n.
func exists(index, n int) bool { return 0 <= index && index < n }

// existsOrAny admits -1 as well.
func existsOrAny(index, n int) bool { return index == -1 || exists(index, n) }

func between(n, least, most int) bool { return least <= n && n <= most }

// every reports whether all items are right.
func every[T any](items []T, right func(T) bool) bool {
	for _, item := range items {
		if !right(item) {
			return false
		}
	}
	return true
}

// grammarRight reports whether a grammar is valid.
func grammarRight(g *api.Grammar) bool {
	return sizesRight(g) &&
		numeral.Check(g.System) == api.OK &&
		every(g.Sorts, sortRight) &&
		every(g.Tables, tableRight) &&
		nounsRight(g) &&
		every(g.Conventions, func(c api.Convention) bool { return conventionRight(g, c) }) &&
		every(g.Contexts, func(c api.Context) bool { return contextRight(g, c) })
}

func sizesRight(g *api.Grammar) bool {
	return len(g.Sorts) <= api.MaxSorts &&
		len(g.Tables) <= api.MaxTables &&
		len(g.Nouns) <= api.MaxNouns &&
		between(len(g.Conventions), 1, api.MaxConventions) &&
		len(g.Contexts) <= api.MaxContexts
}

func sortRight(spans []api.Span) bool {
	return between(len(spans), 1, mostSpans) && every(spans, func(s api.Span) bool {
		return 0 <= s.From && s.From <= s.To && s.To <= utf8.MaxRune
	})
}

func tableRight(rows []api.Row) bool {
	if len(rows) > api.MaxRows {
		return false
	}
	for i, row := range rows {
		if row.Text == "" || i > 0 && row.Text <= rows[i-1].Text || !wordsRight(row.Words) {
			return false
		}
	}
	return true
}

func wordsRight(words []string) bool {
	return len(words) <= mostWords && every(words, wordRight)
}

func wordRight(word string) bool {
	return between(len(word), 1, mostLetters) && every([]byte(word), func(b byte) bool { return b >= firstByte })
}

func nounsRight(g *api.Grammar) bool {
	for i, noun := range g.Nouns {
		if !wordRight(noun.Word) || !exists(noun.Gender, g.System.Genders) || i > 0 && noun.Word <= g.Nouns[i-1].Word {
			return false
		}
	}
	return true
}

func contextRight(g *api.Grammar, c api.Context) bool {
	return existsOrAny(c.Left, len(g.Conventions)) &&
		existsOrAny(c.Right, len(g.Conventions)) &&
		between(c.Cost, 0, mostCost)
}

func conventionRight(g *api.Grammar, c api.Convention) bool {
	if !between(len(c.Pattern), 1, api.MaxAtoms) || len(c.Says) > api.MaxSays || !between(c.Cost, 0, mostCost) {
		return false
	}
	groups := 0
	for _, atom := range c.Pattern {
		if !atomRight(g, atom) {
			return false
		}
		if !literal(atom) {
			groups++
		}
	}
	return sidesRight(g, c.Before) && sidesRight(g, c.After) &&
		every(c.Says, func(say api.Say) bool { return sayRight(g, say, groups) })
}

// literal reports whether an atom is a text; all others are groups.
func literal(a api.Atom) bool { return a.Text != "" }

func atomRight(g *api.Grammar, a api.Atom) bool {
	if literal(a) {
		return utf8.ValidString(a.Text) && a.Sort == 0 && a.Least == 0 && a.Most == 0
	}
	return exists(a.Sort, len(g.Sorts)) && 1 <= a.Least && a.Least <= a.Most && a.Most <= mostRepeats
}

func sidesRight(g *api.Grammar, sides []int) bool {
	return len(sides) <= mostSides && every(sides, func(side int) bool { return existsOrAny(side, len(g.Sorts)) })
}

// sayRight takes the fields that the kind uses out of its copy of the say; what is left must be 0 or empty.
func sayRight(g *api.Grammar, say api.Say, groups int) bool {
	right := true
	take := func(field *int, least, count int) {
		right = right && least <= *field && *field < count
		*field = 0
	}
	switch say.Kind {
	case api.SayWords:
		right = wordsRight(say.Words)
		say.Words = nil
	case api.SayNumber, api.SayDigits:
		anyGender := 0
		if say.Kind == api.SayNumber {
			anyGender = -1
		}
		take(&say.Group, 0, groups)
		take(&say.Set, 0, len(g.System.Sets))
		take(&say.Gender, anyGender, g.System.Genders)
		take(&say.Case, 0, g.System.Cases)
	case api.SayEcho:
		take(&say.Group, 0, groups)
	case api.SayRow:
		take(&say.Group, 0, groups)
		take(&say.Table, 0, len(g.Tables))
	case api.SayCounted:
		take(&say.Group, 0, groups)
		take(&say.Term, 0, len(g.System.Terms))
		take(&say.Case, 0, g.System.Cases)
	default:
		return false
	}
	return right && len(say.Words) == 0 && say.Group == 0 && say.Set == 0 && say.Gender == 0 &&
		say.Case == 0 && say.Table == 0 && say.Term == 0
}
