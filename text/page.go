package text

import (
	"slices"
	"strings"
	"unicode/utf8"

	"declaim/api"
)

// page is a text that is prepared for being read. Within this package, a place is a number of characters; starts turns it into bytes for results.
type page struct {
	text   string
	starts []int   // by place: the byte at which it is
	runs   [][]int // by sort and place: how many characters of the sort follow each other from there
}

func newPage(sorts [][]api.Span, text string) page {
	p := page{text: text}
	var characters []rune
	for at, character := range text {
		p.starts = append(p.starts, at)
		characters = append(characters, character)
	}
	p.starts = append(p.starts, len(text))
	for _, spans := range sorts {
		p.runs = append(p.runs, runsOf(spans, characters))
	}
	return p
}

func runsOf(spans []api.Span, characters []rune) []int {
	runs := make([]int, len(characters)+1)
	for at := len(characters) - 1; at >= 0; at-- {
		if ofSort(spans, characters[at]) {
			runs[at] = runs[at+1] + 1
		}
	}
	return runs
}

func ofSort(spans []api.Span, character rune) bool {
	return slices.ContainsFunc(spans, func(s api.Span) bool { return s.From <= character && character <= s.To })
}

// end is the last place.
func (p *page) end() int { return len(p.starts) - 1 }

// placeOf finds the place that is at a byte.
func (p *page) placeOf(at int) (int, bool) { return slices.BinarySearch(p.starts, at) }

// passage is the text between two places.
func (p *page) passage(from, to int) string { return p.text[p.starts[from]:p.starts[to]] }

// reach returns the nearest and the farthest place at which an atom's part from a place on can end; there is none if the nearest one is farther.
func (p *page) reach(a api.Atom, from int) (int, int) {
	if !literal(a) {
		return from + a.Least, from + min(a.Most, p.runs[a.Sort][from])
	}
	if !strings.HasPrefix(p.text[p.starts[from]:], a.Text) {
		return from + 1, from
	}
	to := from + utf8.RuneCountInString(a.Text)
	return to, to
}

// allowed reports whether the side of a piece is as Before or After want it: at an edge of the text, or next to a character.
func (p *page) allowed(sides []int, edge bool, character int) bool {
	return len(sides) == 0 || slices.ContainsFunc(sides, func(side int) bool {
		if side == -1 || edge {
			return side == -1 && edge
		}
		return p.runs[side][character] > 0
	})
}
