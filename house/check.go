package house

import (
	"slices"
	"unicode/utf8"

	"declaim/api"
	"declaim/text"
)

const (
	mostStart    = 1<<62 + 1<<17
	mostChips    = 10000
	leastPeriod  = 4
	mostPeriod   = 256
	mostBits     = 16
	mostMargin   = 1000000000 // and threshold of a find
	loudest      = 32767
	mostGain     = 1000000 // numerator and denominator
	mostNoise    = 32768
	mostNumber   = 1000000000 // that gets a sign
	mostSum      = 100000000000
	mostWays     = 1 << 40
	finest       = 1000 // denominator of a level
	mostRows     = 1000
	mostVersions = 20
)

func between(n, least, most int) bool { return least <= n && n <= most }

func stampRight(m api.Stamp) bool {
	return between(m.Key, 0, api.MaxKey) && between(m.Period, leastPeriod, mostPeriod) && between(m.Bits, 1, mostBits) && marginRight(m.Margin)
}

// marginRight examines a margin or a threshold of a find.
func marginRight(n int) bool { return between(n, 1, mostMargin) }

func messageRight(m api.Stamp, message int) bool { return between(message, 0, 1<<m.Bits-1) }

func samplesRight(samples []int) bool {
	return !slices.ContainsFunc(samples, func(sample int) bool { return !between(sample, -loudest-1, loudest) })
}

func gainRight(num, den int) bool { return between(num, 1, mostGain) && between(den, 1, mostGain) }

func numbersRight(x []int) bool {
	return !slices.ContainsFunc(x, func(n int) bool { return !between(n, -mostNumber, mostNumber) })
}

func chanceWrong(c api.Chance) bool { return !between(c.All, 1, mostWays) || !between(c.Of, 0, c.All) }

func levelRight(num, den int) bool { return between(den, 2, finest) && between(num, 1, den-1) }

// readError checks what layer 2 would for a text and several grammars.
func readError(written string, grammars ...api.Grammar) api.Errno {
	switch {
	case tooLong(written):
		return api.ErrLong
	case slices.ContainsFunc(grammars, grammarWrong):
		return api.ErrArg
	case textWrong(written):
		return api.ErrText
	}
	return api.OK
}

func grammarWrong(g api.Grammar) bool { return text.Check(g) != api.OK }

func tooLong(written string) bool { return len(written) > api.MaxText }

func textWrong(written string) bool { return !utf8.ValidString(written) }

// patchError checks all but whether there is a patch.
func patchError(g api.Grammar, written string, from, to int, words []string, corpus []string) api.Errno {
	switch {
	case tooLong(written) || len(corpus) > api.MaxCorpus || slices.ContainsFunc(corpus, tooLong):
		return api.ErrLong
	case grammarWrong(g) || !pieceRight(written, from, to) || !wordsRight(g.System, words):
		return api.ErrArg
	case textWrong(written) || slices.ContainsFunc(corpus, textWrong):
		return api.ErrText
	case !isPlace(written, from) || !isPlace(written, to):
		return api.ErrArg
	case len(g.Conventions) == api.MaxConventions:
		return api.ErrLong
	}
	return api.OK
}

func pieceRight(written string, from, to int) bool {
	return 0 <= from && from < to && to <= len(written)
}

// wordsRight asks layer 2 whether words can be said, by a grammar that says nothing else; its system of numerals must be right.
func wordsRight(system api.System, words []string) bool {
	return !grammarWrong(api.Grammar{System: system, Conventions: []api.Convention{saying("any", words)}})
}

// isPlace reports whether a number of bytes, at most the length of a text, is before a character or at the end.
func isPlace(written string, at int) bool {
	return at == len(written) || utf8.RuneStart(written[at])
}
