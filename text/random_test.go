package text_test

import (
	"math"
	"math/rand/v2"
	"slices"
	"testing"

	"declaim/api"
	"declaim/text"
)

// few reports whether a model can go through all readings.
func few(m *model) bool {
	lists := map[int]int{}
	places := m.places()
	for _, at := range slices.Backward(places) {
		lists[at] = 1
		for convention := range m.g.Conventions {
			for _, step := range m.fits(convention, at) {
				lists[at] += lists[step.To]
			}
		}
	}
	return lists[0] <= 3000
}

func TestFitsLikeModel(t *testing.T) {
	forRandom(t, 1500, 9, func(r *rand.Rand, g api.Grammar, written string) {
		m := &model{g, written}
		for _, at := range m.places() {
			for convention := range g.Conventions {
				got, e := text.Fits(g, written, convention, at)
				if want := m.fits(convention, at); e != api.OK || !slices.EqualFunc(got, want, sameStep) {
					t.Errorf("%q: convention %d at %d: %v %d, not %v", written, convention, at, got, e, want)
				}
			}
		}
	})
}

func TestReadingsLikeModel(t *testing.T) {
	read, many := 0, 0
	forRandom(t, 1500, 10, func(r *rand.Rand, g api.Grammar, written string) {
		m := &model{g, written}
		if !few(m) {
			return
		}
		want := m.readings()
		for _, n := range []int{0, 1, 1 + r.IntN(20), api.MaxReadings} {
			got, e := text.Readings(g, written, n)
			if e != api.OK || !slices.EqualFunc(got, want[:min(n, len(want))], sameReading) {
				t.Errorf("%q: Readings %v %d, not %v", written, got, e, want)
			}
		}
		if gap, e := text.Gap(g, written); e != api.OK || gap != m.gap() || (gap == len(written)) != (len(want) > 0) {
			t.Errorf("%q: Gap %d %d, not %d", written, gap, e, m.gap())
		}
		if len(want) == 0 {
			unreadable(t, g, written)
			return
		}
		read++
		many += len(want)
		best, certificate, e := text.Best(g, written)
		if e != api.OK || !sameReading(best, want[0]) || !slices.Equal(certificate, m.certificate()) {
			t.Errorf("%q: Best %v %v %d, not %v %v", written, best, certificate, e, want[0], m.certificate())
		}
		if words, e := text.Words(g, written); e != api.OK || !slices.Equal(words, wordsOf(want[0])) {
			t.Errorf("%q: Words %q %d", written, words, e)
		}
		if rivals, e := text.Rivals(g, written); e != api.OK || !slices.Equal(rivals, m.rivals()) {
			t.Errorf("%q: Rivals %v %d, not %v", written, rivals, e, m.rivals())
		}
	})
	if read < 800 || many < 20000 {
		t.Errorf("only %d texts with %d readings", read, many)
	}
}

func wordsOf(r api.Reading) []string {
	var words []string
	for _, step := range r.Steps {
		words = append(words, step.Words...)
	}
	return words
}

// unreadable checks that all that needs a reading says that there is none.
func unreadable(t *testing.T, g api.Grammar, written string) {
	t.Helper()
	if r, c, e := text.Best(g, written); e != api.ErrNone || r.Steps != nil || r.Cost != 0 || c != nil {
		t.Errorf("%q: Best %v %v %d", written, r, c, e)
	}
	if w, e := text.Words(g, written); e != api.ErrNone || w != nil {
		t.Errorf("%q: Words %v %d", written, w, e)
	}
	if l, e := text.Rivals(g, written); e != api.ErrNone || l != nil {
		t.Errorf("%q: Rivals %v %d", written, l, e)
	}
	if l, e := text.Readings(g, written, 5); e != api.OK || len(l) != 0 {
		t.Errorf("%q: Readings %v %d", written, l, e)
	}
}

// bendCertificate changes a certificate a little; often, it still holds.
func bendCertificate(r *rand.Rand, m *model, certificate []api.Value) []api.Value {
	bent := slices.Clone(certificate)
	places := m.places()
	for range r.IntN(3) {
		extra := api.Value{At: places[r.IntN(len(places))], Last: r.IntN(len(m.g.Conventions)+1) - 1, Rest: r.IntN(5)}
		if i, found := slices.BinarySearchFunc(bent, extra, compareValues); !found && r.IntN(8) > 0 {
			bent = slices.Insert(bent, i, extra)
		}
		if len(bent) == 0 {
			continue
		}
		v := &bent[r.IntN(len(bent))]
		switch r.IntN(12) {
		case 0:
			v.Rest = []int{-1, 0, math.MaxInt, math.MinInt, v.Rest + 1, v.Rest - 1}[r.IntN(6)]
		case 1:
			v.At += r.IntN(3) - 1
		case 2:
			v.Last += r.IntN(3) - 1
		case 3:
			i := r.IntN(len(bent))
			bent = slices.Delete(bent, i, i+1)
		case 4, 5:
			v.Rest = max(0, v.Rest-1)
		}
	}
	return bent
}

func TestVerifyLikeModel(t *testing.T) {
	held, failed := 0, 0
	forRandom(t, 1500, 7, func(r *rand.Rand, g api.Grammar, written string) {
		m := &model{g, written}
		if !few(m) {
			return
		}
		reading, certificate, e := text.Best(g, written)
		if e != api.OK {
			certificate = []api.Value{{Last: -1, Rest: r.IntN(3)}}
		} else if !text.Verify(g, written, reading.Cost, certificate) || text.Verify(g, written, reading.Cost+1, certificate) {
			t.Errorf("%q: the certificate %v for %d", written, certificate, reading.Cost)
		}
		for range 15 {
			bent, cost := bendCertificate(r, m, certificate), reading.Cost+r.IntN(5)-2
			got := text.Verify(g, written, cost, bent)
			if got != m.holds(cost, bent) {
				t.Errorf("%q: Verify of %v for %d: %v", written, bent, cost, got)
			}
			if got && e == api.OK && cost > reading.Cost {
				t.Errorf("%q: %v is accepted for %d, but a reading costs %d", written, bent, cost, reading.Cost)
			}
			if got {
				held++
			} else {
				failed++
			}
		}
	})
	if held < 500 || failed < 500 {
		t.Errorf("%d hold, %d do not", held, failed)
	}
}

func TestCorpusLikeModel(t *testing.T) {
	forRandom(t, 200, 5, func(r *rand.Rand, g api.Grammar, written string) {
		corpus := []string{written, "", "x\U0010FFFF"}
		for range 8 {
			corpus = append(corpus, randomText(r, 5))
		}
		corpus = slices.DeleteFunc(corpus, func(s string) bool { return !few(&model{g, s}) })
		changed := r.IntN(len(g.Conventions))
		h := copyGrammar(g)
		h.Conventions[changed] = randomConvention(r, g)
		corpus = slices.DeleteFunc(corpus, func(s string) bool { return !few(&model{h, s}) })
		var differ, usersG, usersH []int
		for i, s := range corpus {
			one, other := (&model{g, s}).readings(), (&model{h, s}).readings()
			if (len(one) == 0) != (len(other) == 0) || len(one) > 0 && !slices.Equal(wordsOf(one[0]), wordsOf(other[0])) {
				differ = append(differ, i)
			}
			if uses(one, changed) {
				usersG = append(usersG, i)
			}
			if uses(other, changed) {
				usersH = append(usersH, i)
			}
		}
		got, e := text.Differ(g, h, corpus)
		isList(t, "Differ", got, e, differ...)
		for _, i := range got {
			if !slices.Contains(usersG, i) && !slices.Contains(usersH, i) {
				t.Errorf("%q differs, but does not use the changed convention", corpus[i])
			}
		}
		got, e = text.Users(g, corpus, changed)
		isList(t, "Users", got, e, usersG...)
		got, e = text.Users(h, corpus, changed)
		isList(t, "Users", got, e, usersH...)
	})
}

func uses(readings []api.Reading, convention int) bool {
	return len(readings) > 0 && slices.ContainsFunc(readings[0].Steps, func(s api.Step) bool { return s.Convention == convention })
}

func isList(t *testing.T, name string, got []int, e api.Errno, want ...int) {
	t.Helper()
	if e != api.OK || !slices.Equal(got, want) {
		t.Errorf("%s: %v %d, not %v", name, got, e, want)
	}
}
