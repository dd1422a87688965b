package letter_test

import (
	"math/rand/v2"
	"slices"
	"strings"
	"testing"

	"declaim/api"
	"declaim/letter"
)

// isAligned checks an alignment whose pieces are written with / between them.
func isAligned(t *testing.T, p []api.Pair, word, pronunciation, pieces string, cost int) {
	t.Helper()
	var want [][]string
	for piece := range strings.SplitSeq(pieces, "/") {
		want = append(want, phones(piece))
	}
	got, sum, e := letter.Align(p, word, phones(pronunciation))
	isOK(t, word, e)
	isSame(t, word, got, want)
	isSame(t, word+", cost", sum, cost)
}

func TestAlign(t *testing.T) {
	isAligned(t, pairsE(), "cat", "k a t", "k/a/t", 0)
	isAligned(t, pairsE(), "ate", "ei t", "ei/t/", 1)
	isAligned(t, pairsE(), "ace", "ei s", "ei/s/", 2)
	isAligned(t, pairsE(), "ee", "e", "/e", 1)
	isAligned(t, pairsE(), "e", "", "", 0)
	isAligned(t, []api.Pair{pair('x', "k s t", 1000)}, "xx", "k s t k s t", "k s t/k s t", 2000)
	isAligned(t, []api.Pair{pair('\u00e9', "e", 1), pair(0x1d11e, "g", 2)}, "\u00e9\U0001d11e\u00e9", "e g e", "e/g/e", 4)
}

// TestFirstAlignment: the least cost, and of several alignments with it the one whose pieces come first.
func TestFirstAlignment(t *testing.T) {
	p := []api.Pair{
		pair('a', "", 0), pair('a', "p", 0), pair('a', "p p", 0), pair('a', "p p p", 0),
		pair('b', "", 0), pair('b', "p", 1), pair('b', "p p", 0),
		pair('c', "p", 1), pair('c', "p p", 0), pair('c', "p p p", 0),
	}
	isAligned(t, p, "aa", "p p p p", "p/p p p", 0)
	isAligned(t, p, "aa", "p p p", "/p p p", 0)
	isAligned(t, p, "ab", "p p", "/p p", 0)
	isAligned(t, p, "ab", "p", "p/", 0)
	isAligned(t, p, "ba", "p", "/p", 0)
	isAligned(t, p, "ca", "p p p", "p p/p", 0)
	isAligned(t, p, "cc", "p p p p p", "p p/p p p", 0)
	isAligned(t, p, "cc", "p p p", "p/p p", 1)
	isAligned(t, p, "aca", "p p p", "/p p/p", 0)
}

func TestLongestAlignment(t *testing.T) {
	p := []api.Pair{pair('a', "", 0), pair('a', "p", 0), pair('a', "p p", 0), pair('a', "p p p", 1000)}
	word := strings.Repeat("a", 40)
	for _, c := range []struct{ phones, cost int }{{0, 0}, {40, 0}, {80, 0}, {81, 1000}, {120, 40000}} {
		pieces, cost, e := letter.Align(p, word, manyPhones(c.phones))
		if e != api.OK || cost != c.cost || len(pieces) != 40 || len(slices.Concat(pieces...)) != c.phones {
			t.Errorf("%d phones: %v %d %d", c.phones, pieces, cost, e)
		}
	}
}

func TestAlignLikeModel(t *testing.T) {
	found, missing := 0, 0
	forRandom(t, 2000, 4, 6, func(r *rand.Rand, p []api.Pair, l []api.Spelled) {
		for _, entry := range l {
			pieces, cost, e := letter.Align(p, entry.Word, entry.Phones)
			want, exists := modelAlign(p, entry.Word, entry.Phones)
			if !exists {
				missing++
				isSame(t, entry.Word, e, api.ErrNone)
				continue
			}
			found++
			isOK(t, entry.Word, e)
			isSame(t, entry.Word, pieces, want.pieces)
			isSame(t, entry.Word, cost, want.cost)
		}
	})
	if found < 1000 || missing < 1000 {
		t.Errorf("only %d alignments, %d without one", found, missing)
	}
}
