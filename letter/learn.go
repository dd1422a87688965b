package letter

import (
	"maps"
	"slices"

	"declaim/api"
)

// lesson is an entry that has an alignment.
type lesson struct {
	letters []rune
	phones  []string
	pairs   []int // for each letter, which one of its pairs
}

// example is a letter of a word with its pair.
type example struct {
	letters []rune
	at      int
	pair    int // which one of the letter's pairs
}

func (a aligner) lessons(l []api.Spelled) []lesson {
	var lessons []lesson
	for _, entry := range l {
		letters := []rune(entry.Word)
		if pairs, _, found := a.align(letters, entry.Phones); found {
			lessons = append(lessons, lesson{letters, entry.Phones, pairs})
		}
	}
	return lessons
}

// learn returns the rules that are learned from lessons.
func (a aligner) learn(lessons []lesson, o api.Learning) api.Book {
	examples := map[rune][]example{}
	for _, l := range lessons {
		for i, letter := range l.letters {
			examples[letter] = append(examples[letter], example{l.letters, i, l.pairs[i]})
		}
	}
	var book api.Book
	for _, letter := range slices.Sorted(maps.Keys(examples)) {
		p := newPupil(o, a[letter], examples[letter])
		book.Letters = append(book.Letters, api.Letter{Letter: letter, Rules: p.learn()})
	}
	return book
}

// validate tries the lessons of each fold with rules that are learned from the other folds.
func (a aligner) validate(lessons []lesson, o api.Learning, folds int) api.Score {
	var score api.Score
	for fold := range folds {
		var known, unknown []lesson
		for i, l := range lessons {
			if i%folds == fold {
				unknown = append(unknown, l)
			} else {
				known = append(known, l)
			}
		}
		book := a.learn(known, o)
		for _, l := range unknown {
			a.grade(book, l, &score)
		}
	}
	return score
}

// grade adds to a score how rules pronounce the word of a lesson.
func (a aligner) grade(b api.Book, l lesson, score *api.Score) {
	var phones []string
	for i, letter := range l.letters {
		piece, _ := ruled(b, l.letters, i)
		phones = append(phones, piece...)
		score.Letters++
		if slices.Equal(piece, a[letter][l.pairs[i]].Piece) {
			score.Good++
		}
	}
	score.Words++
	if slices.Equal(phones, l.phones) {
		score.Right++
	}
}
