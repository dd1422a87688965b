package prosody

import (
	"iter"

	"declaim/api"
)

// The levels of breaks.
const (
	none = iota
	minor
	major
)

// gaps is the number of gaps between words.
func gaps(words []api.SpokenWord) int { return max(0, len(words)-1) }

// phrase is a piece of a sentence: some neighboring words of all of them.
type phrase struct {
	words    []api.SpokenWord
	from, to int
}

// phrases yields the phrases of a level, in order.
func phrases(words []api.SpokenWord, breaks []int, level int) iter.Seq[phrase] {
	return func(yield func(phrase) bool) {
		from := 0
		for to := 1; to <= len(words); to++ {
			p := phrase{words, from, to}
			if !p.isLast() && breaks[to-1] < level {
				continue
			}
			if !yield(p) {
				return
			}
			from = to
		}
	}
}

// isLast reports whether the sentence, and no break, ends with a phrase.
func (p phrase) isLast() bool { return p.to == len(p.words) }

func (p phrase) own() []api.SpokenWord { return p.words[p.from:p.to] }

// unbroken are the words of a phrase with an own gap behind them that has no break.
func (p phrase) unbroken() []api.SpokenWord { return p.words[p.from : p.to-1] }

func (p phrase) length() int {
	sum := 0
	for _, w := range p.own() {
		sum += w.Syllables
	}
	return sum
}

func (p phrase) tooLong(r api.Rank) int { return max(0, p.length()-r.Bound) }

func (p phrase) tooShort(r api.Rank) int { return max(0, r.Bound-p.length()) }

// cuts is 1 if there is a break behind a phrase where words belong together.
func (p phrase) cuts(r api.Rank) int {
	if p.isLast() || p.words[p.to-1].Gap >= r.Bound {
		return 0
	}
	return 1
}

// missed is the number of gaps in a phrase where words do not belong together.
func (p phrase) missed(r api.Rank) int {
	sum := 0
	for _, w := range p.unbroken() {
		if w.Gap >= r.Bound {
			sum++
		}
	}
	return sum
}

// blurred is the number of words in focus with no break behind them.
func (p phrase) blurred(api.Rank) int {
	sum := 0
	for _, w := range p.unbroken() {
		if w.Focus {
			sum++
		}
	}
	return sum
}

// broken is 1 if there is a break behind a phrase, and if all breaks together could be more than the bound.
func (p phrase) broken(r api.Rank) int {
	if p.isLast() || r.Bound >= gaps(p.words) {
		return 0
	}
	return 1
}

// counts returns what each kind of constraint counts in a phrase of its level.
func counts() map[api.RankKind]func(phrase, api.Rank) int {
	return map[api.RankKind]func(phrase, api.Rank) int{
		api.RankLong:   phrase.tooLong,
		api.RankShort:  phrase.tooShort,
		api.RankCut:    phrase.cuts,
		api.RankMissed: phrase.missed,
		api.RankFocus:  phrase.blurred,
		api.RankBreaks: phrase.broken,
	}
}

// excess is how often a constraint is violated that has counted something in all phrases.
func excess(r api.Rank, counted int) int {
	if r.Kind == api.RankBreaks {
		return max(0, counted-r.Bound)
	}
	return counted
}

func violations(words []api.SpokenWord, ranks []api.Rank, breaks []int) []int {
	violated, count := make([]int, len(ranks)), counts()
	for i, r := range ranks {
		counted := 0
		for p := range phrases(words, breaks, r.Level) {
			counted += count[r.Kind](p, r)
		}
		violated[i] = excess(r, counted)
	}
	return violated
}
