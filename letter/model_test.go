package letter_test

import (
	"cmp"
	"slices"
	"strings"

	"declaim/api"
)

// The models do what the chapter's sentences say, by trying everything.

// modelAlignment is one alignment.
type modelAlignment struct {
	pieces [][]string
	cost   int
}

func allAlignments(p []api.Pair, letters []rune, all []string) []modelAlignment {
	if len(letters) == 0 {
		if len(all) == 0 {
			return []modelAlignment{{}}
		}
		return nil
	}
	var found []modelAlignment
	for _, pair := range p {
		n := len(pair.Piece)
		if pair.Letter != letters[0] || n > len(all) || !slices.Equal(pair.Piece, all[:n]) {
			continue
		}
		for _, rest := range allAlignments(p, letters[1:], all[n:]) {
			found = append(found, modelAlignment{append([][]string{pair.Piece}, rest.pieces...), pair.Cost + rest.cost})
		}
	}
	return found
}

func modelAlign(p []api.Pair, word string, all []string) (modelAlignment, bool) {
	found := allAlignments(p, []rune(word), all)
	if len(found) == 0 {
		return modelAlignment{}, false
	}
	return slices.MinFunc(found, func(a, b modelAlignment) int {
		return cmp.Or(cmp.Compare(a.cost, b.cost), slices.CompareFunc(a.pieces, b.pieces, slices.Compare[[]string]))
	}), true
}

// modelExample is a letter of a word with its piece.
type modelExample struct {
	word  []rune
	at    int
	piece []string
}

func modelHolds(conditions []api.Condition, word []rune, at int) bool {
	for _, c := range conditions {
		there := rune(0)
		if at+c.At >= 0 && at+c.At < len(word) {
			there = word[at+c.At]
		}
		if there != c.Letter {
			return false
		}
	}
	return true
}

// modelMost returns the piece that most examples have, and how many.
func modelMost(examples []modelExample) ([]string, int) {
	var best []string
	most := 0
	for _, e := range examples {
		n := 0
		for _, other := range examples {
			if slices.Equal(e.piece, other.piece) {
				n++
			}
		}
		if n > most || n == most && slices.Compare(e.piece, best) < 0 {
			best, most = e.piece, n
		}
	}
	return best, most
}

// modelTests are all tests with the letters of the examples, in the order in which the chapter compares tests that are as good.
func modelTests(examples []modelExample, reach int) [][]api.Condition {
	letters := []rune{0}
	for _, e := range examples {
		letters = append(letters, e.word...)
	}
	slices.Sort(letters)
	letters = slices.Compact(letters)
	var single []api.Condition
	for _, at := range []int{-1, 1, -2, 2, -3, 3} {
		for _, letter := range letters {
			if -reach <= at && at <= reach {
				single = append(single, when(at, letter))
			}
		}
	}
	var tests [][]api.Condition
	for _, c := range single {
		tests = append(tests, []api.Condition{c})
	}
	for _, c := range single {
		for _, d := range single {
			if c.At < d.At {
				tests = append(tests, []api.Condition{c, d})
			}
		}
	}
	return tests
}

func modelRules(examples []modelExample, o api.Learning) []api.Choice {
	usual, _ := modelMost(examples)
	var rules []api.Choice
	for len(rules) < o.Most {
		if _, most := modelMost(examples); most == len(examples) {
			break
		}
		var best api.Choice
		bestM, bestN := 0, 0
		for _, tests := range modelTests(examples, o.Reach) {
			var held []modelExample
			for _, e := range examples {
				if modelHolds(tests, e.word, e.at) {
					held = append(held, e)
				}
			}
			piece, m := modelMost(held)
			n := len(held)
			if n >= max(o.Least, 1) && (bestN == 0 || m*bestN > bestM*n || m*bestN == bestM*n && n > bestN) {
				best, bestM, bestN = api.Choice{Tests: tests, Piece: piece}, m, n
			}
		}
		if bestN == 0 {
			break
		}
		rules = append(rules, best)
		examples = slices.DeleteFunc(slices.Clone(examples), func(e modelExample) bool { return modelHolds(best.Tests, e.word, e.at) })
	}
	if len(examples) > 0 {
		usual, _ = modelMost(examples)
	}
	return append(rules, api.Choice{Piece: usual})
}

func modelLearn(l []api.Spelled, p []api.Pair, o api.Learning) api.Book {
	examples := map[rune][]modelExample{}
	for _, entry := range l {
		a, found := modelAlign(p, entry.Word, entry.Phones)
		if !found {
			continue
		}
		word := []rune(entry.Word)
		for i, letter := range word {
			examples[letter] = append(examples[letter], modelExample{word, i, a.pieces[i]})
		}
	}
	var b api.Book
	for letter, own := range examples {
		b.Letters = append(b.Letters, api.Letter{Letter: letter, Rules: modelRules(own, o)})
	}
	slices.SortFunc(b.Letters, func(a, b api.Letter) int { return cmp.Compare(a.Letter, b.Letter) })
	return b
}

// modelSay returns the sounds, and the pieces of the letters.
func modelSay(b api.Book, written string) ([]api.Sound, [][]string) {
	var sounds []api.Sound
	word := []rune(written)
	pieces := make([][]string, len(word))
	for at := range word {
		for _, l := range b.Letters {
			if l.Letter != word[at] {
				continue
			}
			rule := slices.IndexFunc(l.Rules, func(c api.Choice) bool { return modelHolds(c.Tests, word, at) })
			pieces[at] = l.Rules[rule].Piece
			for _, phone := range pieces[at] {
				sounds = append(sounds, api.Sound{Phone: phone, From: at, By: api.ReasonRule, Index: rule})
			}
		}
	}
	return sounds, pieces
}

func modelValidate(l []api.Spelled, p []api.Pair, o api.Learning, folds int) api.Score {
	var aligned []api.Spelled
	var pieces [][][]string
	for _, entry := range l {
		if a, found := modelAlign(p, entry.Word, entry.Phones); found {
			aligned = append(aligned, entry)
			pieces = append(pieces, a.pieces)
		}
	}
	score := api.Score{Words: len(aligned)}
	for i, entry := range aligned {
		var others []api.Spelled
		for j, other := range aligned {
			if j%folds != i%folds {
				others = append(others, other)
			}
		}
		_, said := modelSay(modelLearn(others, p, o), entry.Word)
		for j := range said {
			score.Letters++
			if slices.Equal(said[j], pieces[i][j]) {
				score.Good++
			}
		}
		if slices.Equal(slices.Concat(said...), entry.Phones) {
			score.Right++
		}
	}
	return score
}

func modelEntry(l []api.Spelled, word string) int {
	return slices.IndexFunc(l, func(e api.Spelled) bool { return e.Word == word })
}

// allDivisions lists how a word can be divided into words of the lexicon, into itself alone, too.
func allDivisions(l []api.Spelled, word string) [][]string {
	if word == "" {
		return [][]string{nil}
	}
	var found [][]string
	for _, entry := range l {
		if rest, ok := strings.CutPrefix(word, entry.Word); ok {
			for _, parts := range allDivisions(l, rest) {
				found = append(found, append([]string{entry.Word}, parts...))
			}
		}
	}
	return found
}

func modelSplit(l []api.Spelled, word string) []string {
	var best []string
	for _, parts := range allDivisions(l, word) {
		longer := func(a, b string) int { return cmp.Compare(len(b), len(a)) }
		if len(parts) >= 2 && (best == nil || len(parts) < len(best) || len(parts) == len(best) && slices.CompareFunc(parts, best, longer) < 0) {
			best = parts
		}
	}
	return best
}

func modelPronounce(l []api.Spelled, b api.Book, word string) []api.Sound {
	parts, by := []string{word}, api.ReasonEntry
	if modelEntry(l, word) < 0 {
		parts, by = modelSplit(l, word), api.ReasonPart
	}
	if parts == nil {
		sounds, _ := modelSay(b, word)
		return sounds
	}
	var sounds []api.Sound
	from := 0
	for _, part := range parts {
		entry := modelEntry(l, part)
		for _, phone := range l[entry].Phones {
			sounds = append(sounds, api.Sound{Phone: phone, From: from, By: by, Index: entry})
		}
		from += len([]rune(part))
	}
	return sounds
}

// modelJoin works on texts in which a phone is written with a blank before it and one behind it.
func modelJoin(joints []api.Joint, words [][]string) [][]string {
	written := func(all []string) string {
		text := ""
		for _, phone := range all {
			text += " " + phone + " "
		}
		return text
	}
	var texts []string
	for _, word := range words {
		texts = append(texts, written(word))
	}
	for i := 1; i < len(texts); i++ {
		for _, j := range joints {
			left, fitsLeft := strings.CutSuffix(texts[i-1], written(j.Left))
			right, fitsRight := strings.CutPrefix(texts[i], written(j.Right))
			if fitsLeft && fitsRight {
				texts[i-1], texts[i] = left+written(j.ToLeft), written(j.ToRight)+right
				break
			}
		}
	}
	var joined [][]string
	for _, text := range texts {
		joined = append(joined, phones(text))
	}
	return joined
}
