package letter

import (
	"cmp"
	"slices"
	"strings"
	"unicode/utf8"

	"declaim/api"
)

const (
	firstLetter = 33   // letters are code points from here on
	mostLetters = 40   // of a word
	firstByte   = 33   // of a phone
	lastByte    = 126  // of a phone
	mostBytes   = 8    // of a phone
	mostPiece   = 3    // phones of a piece
	mostPhones  = 120  // of a pronunciation
	mostCost    = 1000 // of a pair
	mostRules   = 1000 // of a decision list
	mostTests   = 2    // conditions of a test
	mostReach   = 3    // distance of a condition
	mostLeast   = 1000 // examples of a learned rule
	mostLearned = 500  // rules with conditions that are learned for a letter
	leastFolds  = 2
	mostFolds   = 10
	mostWords   = 100 // that are joined
	mostForeign = 200 // phones of an accent
	mostSteps   = 5   // of a phone of an accent
)

func between(n, least, most int) bool { return least <= n && n <= most }

// letterRight reports whether words can have a letter.
func letterRight(letter rune) bool { return letter >= firstLetter && utf8.ValidRune(letter) }

func wordRight(word string) bool {
	letters := 0
	for _, letter := range word {
		if !letterRight(letter) {
			return false
		}
		letters++
	}
	return utf8.ValidString(word) && between(letters, 1, mostLetters)
}

func phoneRight(phone string) bool {
	return between(len(phone), 1, mostBytes) && every([]byte(phone), func(b byte) bool { return firstByte <= b && b <= lastByte })
}

func pieceRight(piece []string) bool {
	return len(piece) <= mostPiece && every(piece, phoneRight)
}

func pronunciationRight(phones []string) bool {
	return len(phones) <= mostPhones && every(phones, phoneRight)
}

func entryRight(e api.Spelled) bool { return wordRight(e.Word) && pronunciationRight(e.Phones) }

func compareEntries(a, b api.Spelled) int { return strings.Compare(a.Word, b.Word) }

func pairRight(p api.Pair) bool {
	return letterRight(p.Letter) && pieceRight(p.Piece) && between(p.Cost, 0, mostCost)
}

func comparePairs(a, b api.Pair) int {
	return cmp.Or(cmp.Compare(a.Letter, b.Letter), slices.Compare(a.Piece, b.Piece))
}

// listRight reports whether a decision list is as defined.
func listRight(l api.Letter) bool {
	if !letterRight(l.Letter) || !between(len(l.Rules), 1, mostRules) {
		return false
	}
	last := len(l.Rules) - 1
	for i, rule := range l.Rules {
		if (len(rule.Tests) == 0) != (i == last) || !testRight(rule.Tests) || !pieceRight(rule.Piece) {
			return false
		}
	}
	return true
}

func compareLetters(a, b api.Letter) int { return cmp.Compare(a.Letter, b.Letter) }

// testRight admits a test without conditions, too.
func testRight(conditions []api.Condition) bool {
	return len(conditions) <= mostTests && every(conditions, conditionRight) &&
		increasing(conditions, func(a, b api.Condition) int { return cmp.Compare(a.At, b.At) })
}

func conditionRight(c api.Condition) bool {
	return c.At != 0 && between(c.At, -mostReach, mostReach) && (c.Letter == 0 || letterRight(c.Letter))
}

func learningRight(o api.Learning) bool {
	return between(o.Reach, 1, mostReach) && between(o.Least, 1, mostLeast) && between(o.Most, 1, mostLearned)
}

func jointRight(j api.Joint) bool {
	return len(j.Left)+len(j.Right) > 0 &&
		pieceRight(j.Left) && pieceRight(j.Right) && pieceRight(j.ToLeft) && pieceRight(j.ToRight)
}

func accentRight(a []api.Foreign) bool {
	return len(a) <= mostForeign && every(a, foreignRight) &&
		increasing(a, func(a, b api.Foreign) int { return strings.Compare(a.Phone, b.Phone) })
}

func foreignRight(f api.Foreign) bool {
	return phoneRight(f.Phone) && between(len(f.Steps), 1, mostSteps) && every(f.Steps, pieceRight)
}
