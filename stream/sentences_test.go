package stream_test

import (
	"fmt"
	"math/rand/v2"
	"reflect"
	"slices"
	"testing"

	"declaim/api"
	"declaim/stream"
)

const (
	least    = -1 << 63
	greatest = 1<<63 - 1
)

// results are those of a call, its error at the end.
func results(all ...any) []any { return all }

// short prints the beginning of what may be a long list.
func short(printed any) string {
	text := fmt.Sprint(printed)
	return text[:min(len(text), 400)]
}

// isOK checks that a call has no error, and that it has these other results; nil and empty lists are printed the same.
func isOK(t *testing.T, name string, got []any, want ...any) {
	t.Helper()
	isSame(t, name, got, append(want, api.OK))
}

// isError checks that a call has an error and zero values.
func isError(t *testing.T, name string, got []any, want api.Errno) {
	t.Helper()
	last := len(got) - 1
	if got[last] != want {
		t.Errorf("%s: error %v, not %d", name, got[last], want)
	}
	for _, result := range got[:last] {
		if v := reflect.ValueOf(result); !v.IsZero() && (v.Kind() != reflect.Slice || v.Len() > 0) {
			t.Errorf("%s: result %s with an error", name, short(result))
		}
	}
}

// judge checks that a call has this error; OK: that it has none.
func judge(t *testing.T, name string, want api.Errno, got []any) {
	t.Helper()
	if want != api.OK {
		isError(t, name, got, want)
	} else if e := got[len(got)-1]; e != api.OK {
		t.Errorf("%s: error %d", name, e)
	}
}

// orArg is ErrArg for what is not valid.
func orArg(valid bool) api.Errno {
	if valid {
		return api.OK
	}
	return api.ErrArg
}

func isSame(t *testing.T, name string, got, want any) {
	t.Helper()
	if fmt.Sprint(got) != fmt.Sprint(want) {
		t.Errorf("%s: %s, not %s", name, short(got), short(want))
	}
}

// bounds are a range's numbers at its ends and others near it and far from it, and whether they are in it.
func bounds(from, to int) map[int]bool {
	return map[int]bool{from: true, to: true, from - 1: false, to + 1: false, least: false, greatest: false}
}

// someOf returns one of a few elements.
func someOf[E any](r *rand.Rand, elements ...E) E { return elements[r.IntN(len(elements))] }

// manyOf returns a list with random elements.
func manyOf[E any](n int, element func() E) []E {
	all := make([]E, n)
	for i := range all {
		all[i] = element()
	}
	return all
}

func isChance(r *rand.Rand, percent int) bool { return r.IntN(100) < percent }

// fromTo returns a number of a range.
func fromTo(r *rand.Rand, from, to int) int { return from + r.IntN(to-from+1) }

// forRandom calls something with a new random source for each seed.
func forRandom(times int, call func(r *rand.Rand)) {
	for seed := range uint64(times) {
		call(rand.New(rand.NewPCG(seed, 9)))
	}
}

func pace(num, den int) api.Pace { return api.Pace{Num: num, Den: den} }

func sign(at int, name string) api.Sign { return api.Sign{At: at, Name: name} }

func job(effort, due int) api.Job { return api.Job{Effort: effort, Due: due} }

// pieceP is the one of the chapter's examples.
func pieceP() api.Speech {
	return api.Speech{Voice: 1, Use: 1, Samples: []int{1, 2, 3, 4, 5, 6}, Periods: []int{0, 2, 4}, Signs: []api.Sign{sign(2, "x")}}
}

// plain is a piece of the voice and the use 1 without periods and signs.
func plain(effort int, samples ...int) api.Speech {
	return api.Speech{Voice: 1, Use: 1, Samples: samples, Effort: effort}
}

// all is a grant for all that a voice may be used for.
func all(voice int) api.Grant {
	return api.Grant{Voice: voice, Until: api.MaxClock, Budget: api.MaxClock}
}

// opened returns a ledger with grants.
func opened(t *testing.T, grants ...api.Grant) *stream.Ledger {
	t.Helper()
	l := stream.Open()
	for i, g := range grants {
		isOK(t, "Give", results(l.Give(g)), i)
	}
	return l
}

// made returns a speaker with a ledger, and with pieces in its queue.
func made(t *testing.T, l *stream.Ledger, pieces ...api.Speech) *stream.Speaker {
	t.Helper()
	s, e := stream.New(l)
	if e != api.OK || s == nil {
		t.Fatalf("New: error %d", e)
	}
	for i, p := range pieces {
		isOK(t, "Queue", results(s.Queue(p)), i)
	}
	return s
}

// free returns a speaker that may use the voices 1 and 2, with pieces in its queue.
func free(t *testing.T, pieces ...api.Speech) *stream.Speaker {
	t.Helper()
	return made(t, opened(t, all(1), all(2)), pieces...)
}

// pulled returns samples and news.
func pulled(t *testing.T, s *stream.Speaker, n int) ([]int, []api.News) {
	t.Helper()
	samples, news, e := s.Pull(n)
	if e != api.OK || len(samples) != n {
		t.Fatalf("Pull: error %d, %d samples of %d", e, len(samples), n)
	}
	return samples, news
}

func news(kind api.NewsKind, at, piece int) api.News {
	return api.News{Kind: kind, At: at, Piece: piece}
}

func signNews(at, piece int, name string) api.News {
	return api.News{Kind: api.NewsSign, At: at, Piece: piece, Name: name}
}

// usedOf returns how much the grants of a ledger have used up.
func usedOf(l *stream.Ledger) []int {
	var all []int
	for i := range api.MaxGrants {
		used, e := l.Used(i)
		if e != api.OK {
			return all
		}
		all = append(all, used)
	}
	return all
}

// randomSpeech is valid.
func randomSpeech(r *rand.Rand, most int) api.Speech {
	n := r.IntN(most + 1)
	loud := someOf(r, 9, 32767)
	p := api.Speech{Voice: fromTo(r, 1, 3), Use: fromTo(r, 1, 2), Effort: someOf(r, 0, r.IntN(20))}
	p.Samples = manyOf(n, func() int { return fromTo(r, -loud-1, loud) })
	dense := r.IntN(100)
	for i := range n {
		if isChance(r, dense) {
			p.Periods = append(p.Periods, i)
		}
	}
	at := manyOf(r.IntN(6), func() int { return someOf(r, n, r.IntN(n+1)) })
	slices.Sort(at)
	for i, place := range at {
		p.Signs = append(p.Signs, sign(place, string(rune('a'+i))))
	}
	return p
}

func randomPace(r *rand.Rand) api.Pace {
	return someOf(r, pace(1, 1), pace(fromTo(r, 1, 8), fromTo(r, 1, 8)))
}

// randomGrant is valid, and often for what random pieces need.
func randomGrant(r *rand.Rand) api.Grant {
	from := someOf(r, 0, r.IntN(50))
	return api.Grant{Voice: fromTo(r, 1, 3), Use: r.IntN(3), From: from, Until: from + someOf(r, 1000, r.IntN(60)), Budget: someOf(r, 1000, r.IntN(60))}
}
