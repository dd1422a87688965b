package letter

import (
	"cmp"
	"strings"
	"unicode/utf8"

	"declaim/api"
)

// speaker pronounces a word.
type speaker struct {
	lexicon []api.Spelled
	book    api.Book
	word    string
	letters []rune
}

func newSpeaker(l []api.Spelled, b api.Book, word string) *speaker {
	return &speaker{lexicon: l, book: b, word: word, letters: []rune(word)}
}

// pronounce tries the ways to pronounce a word in turn.
func (s *speaker) pronounce() []api.Sound {
	for _, way := range []func() ([]api.Sound, bool){s.byEntry, s.byParts, s.byRules} {
		if sounds, possible := way(); possible {
			return sounds
		}
	}
	return nil
}

func (s *speaker) byEntry() ([]api.Sound, bool) {
	entry, found := entryOf(s.lexicon, s.word)
	if !found {
		return nil, false
	}
	return addSounds(nil, s.lexicon[entry].Phones, 0, api.ReasonEntry, entry), true
}

func (s *speaker) byParts() ([]api.Sound, bool) {
	entries := split(s.lexicon, s.word)
	var sounds []api.Sound
	from := 0
	for _, entry := range entries {
		part := s.lexicon[entry]
		sounds = addSounds(sounds, part.Phones, from, api.ReasonPart, entry)
		from += utf8.RuneCountInString(part.Word)
	}
	return sounds, len(entries) > 0
}

func (s *speaker) byRules() ([]api.Sound, bool) {
	var sounds []api.Sound
	for i := range s.letters {
		piece, rule := ruled(s.book, s.letters, i)
		sounds = addSounds(sounds, piece, i, api.ReasonRule, rule)
	}
	return sounds, true
}

// addSounds adds phones that all have the same reason.
func addSounds(sounds []api.Sound, phones []string, from int, by api.Reason, index int) []api.Sound {
	for _, phone := range phones {
		sounds = append(sounds, api.Sound{Phone: phone, From: from, By: by, Index: index})
	}
	return sounds
}

// ruled returns the piece that rules give to a letter of a word, and the index of its rule; no piece for a letter without a decision list.
func ruled(b api.Book, letters []rune, at int) ([]string, int) {
	list, found := find(b.Letters, func(l api.Letter) int { return cmp.Compare(l.Letter, letters[at]) })
	if !found {
		return nil, 0
	}
	for i, rule := range b.Letters[list].Rules {
		if hold(rule.Tests, letters, at) {
			return rule.Piece, i
		}
	}
	return nil, 0
}

func entryOf(l []api.Spelled, word string) (int, bool) {
	return find(l, func(e api.Spelled) int { return strings.Compare(e.Word, word) })
}

// part is the first part of the split of the end of a word.
type part struct {
	parts int // of the whole split, 0 if there is none
	entry int
	to    int
}

// split returns the entries of the parts of a word, none if it cannot be split.
func split(l []api.Spelled, word string) []int {
	splits := make([]part, len(word)+1)
	for from := len(word) - 1; from >= 0; from-- {
		splits[from] = firstPart(l, word, from, splits)
	}
	var entries []int
	if splits[0].parts > 0 {
		for from := 0; from < len(word); from = splits[from].to {
			entries = append(entries, splits[from].entry)
		}
	}
	return entries
}

// firstPart finds the first part of the split from a byte on; the splits behind it are known.
func firstPart(l []api.Spelled, word string, from int, splits []part) part {
	var best part
	// Longer parts go first, so a shorter one must lead to fewer parts.
	for to := len(word); to > from; to-- {
		whole := from == 0 && to == len(word)
		stuck := to < len(word) && splits[to].parts == 0
		parts := 1 + splits[to].parts
		if whole || stuck || best.parts > 0 && parts >= best.parts {
			continue
		}
		if entry, found := entryOf(l, word[from:to]); found {
			best = part{parts: parts, entry: entry, to: to}
		}
	}
	return best
}
