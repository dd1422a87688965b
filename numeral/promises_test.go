package numeral_test

import (
	"math/rand/v2"
	"reflect"
	"slices"
	"testing"

	"declaim/api"
	"declaim/numeral"
)

// TestNoTwinsOneReading: without twins, no words are read as two numbers, and what is spelled is read.
func TestNoTwinsOneReading(t *testing.T) {
	forRandomSystems(t, func(r *rand.Rand, s api.System, a api.Ask) {
		twins, _ := numeral.Twins(s, a)
		for range 20 {
			b := a
			b.Number = r.IntN(a.Number + 1)
			words, e := numeral.Spell(s, b)
			if e != api.OK {
				continue
			}
			if len(words) == 0 {
				t.Errorf("%+v: words, but none", b)
			}
			read, e := numeral.Read(s, a, words)
			if e != api.OK || !slices.Contains(read, b.Number) || len(twins) == 0 && len(read) != 1 {
				t.Errorf("%+v: read as %v %d", b, read, e)
			}
		}
	})
}

// TestDifferUsesRule: what differs by one rule uses this rule in both systems.
func TestDifferUsesRule(t *testing.T) {
	changed := 0
	forRandomSystems(t, func(r *rand.Rand, s api.System, a api.Ask) {
		set := r.IntN(len(s.Sets))
		at := r.IntN(len(s.Sets[set]))
		other := copySystem(s)
		other.Sets[set][at] = randomRule(r, s, s.Sets[set][at].Base)
		differ, e := numeral.Differ(s, other, a)
		if e != api.OK {
			t.Errorf("Differ: %d", e)
		}
		for _, sys := range []api.System{s, other} {
			uses, e := numeral.Uses(sys, a, set, at)
			for _, n := range differ {
				if e != api.OK || !slices.Contains(uses, n) {
					t.Errorf("%d differs, but rule %d of set %d is used for %v", n, at, set, uses)
				}
			}
		}
		for n := 0; n <= a.Number; n++ {
			b := api.Ask{Number: n, Set: a.Set, Gender: a.Gender, Case: a.Case}
			one, two := modelOf(s, b), modelOf(other, b)
			if slices.Contains(differ, n) != (one.missing != two.missing || !slices.Equal(one.words(), two.words())) {
				t.Errorf("%d: Differ returns %v", n, differ)
			}
		}
		changed += len(differ)
	})
	if changed == 0 {
		t.Error("no system differs from its change")
	}
}

// TestReplacedTexts: other texts for all texts replace the words, and twins stay twins.
func TestReplacedTexts(t *testing.T) {
	replaced := func(text string) string { return "<" + text + ">" }
	forRandomSystems(t, func(r *rand.Rand, s api.System, a api.Ask) {
		other := copySystem(s)
		for i := range other.Terms {
			for j := range other.Terms[i].Forms {
				f := &other.Terms[i].Forms[j]
				f.Text = replaced(f.Text)
			}
		}
		for n := 0; n <= a.Number; n++ {
			b := api.Ask{Number: n, Set: a.Set, Gender: a.Gender, Case: a.Case}
			words, e := numeral.Spell(s, b)
			for i := range words {
				words[i] = replaced(words[i])
			}
			if now, f := numeral.Spell(other, b); e != f || !slices.Equal(now, words) {
				t.Errorf("%d: %q %d, not %q %d", n, now, f, words, e)
			}
		}
		before, _ := numeral.Twins(s, a)
		if after, e := numeral.Twins(other, a); e != api.OK || !slices.Equal(before, after) {
			t.Errorf("twins: %v, not %v", after, before)
		}
	})
}

func TestGreaterTop(t *testing.T) {
	forRandomSystems(t, func(r *rand.Rand, s api.System, a api.Ask) {
		other := s
		other.Top = s.Top + 1 + r.IntN(api.MaxTop-s.Top)
		for range 30 {
			a.Number = r.IntN(s.Top + 1)
			one, e := numeral.Trace(s, a)
			two, f := numeral.Trace(other, a)
			if e != f || !slices.Equal(one, two) {
				t.Errorf("%+v: %v %d, not %v %d", a, two, f, one, e)
			}
		}
	})
}

// TestMemory: no argument is changed, and what a caller does with results changes no later ones.
func TestMemory(t *testing.T) {
	s, words := alike(), []string{"three"}
	before, a := copySystem(s), api.Ask{Number: 200}
	for range 2 {
		spelled, _ := numeral.Spell(s, a)
		if !slices.Equal(spelled, []string{"two", "hundreds"}) {
			t.Errorf("Spell: %q", spelled)
		}
		said, _ := numeral.Trace(s, a)
		twins, _ := numeral.Twins(s, a)
		read, _ := numeral.Read(s, a, words)
		isList(t, "Read", read, api.OK, 3, 4)
		numeral.Missing(s, a)
		numeral.Differ(s, systemE(), a)
		numeral.Uses(s, a, 0, 3)
		numeral.Longest(s, a)
		spelled[0], said[0].Text, twins[0].First, read[0] = "x", "x", 99, 99
	}
	if !reflect.DeepEqual(s, before) || words[0] != "three" {
		t.Error("an argument has changed")
	}
}

// oddNumber is at a bound, near one, or anywhere.
func oddNumber(r *rand.Rand) int {
	odd := []int{-1 << 63, -2, -1, 0, 0, 0, 1, 1, 2, 3, 6, 10, 200, 999, 20000, 20001, api.MaxTop, api.MaxTop + 1, 1<<63 - 1}
	if r.IntN(30) == 0 {
		return int(r.Uint64())
	}
	return odd[r.IntN(len(odd))]
}

// spoil changes a few fields of a system to anything.
func spoil(r *rand.Rand, s *api.System) {
	for range 1 + r.IntN(3) {
		set := &s.Sets[r.IntN(len(s.Sets))]
		if len(*set) == 0 {
			return
		}
		rule := &(*set)[r.IntN(len(*set))]
		fields := []*int{&s.Top, &s.Genders, &s.Cases, &s.Classes, &rule.Base, &rule.Divisor, &s.Terms[0].Gender}
		for i := range rule.Pieces {
			p := &rule.Pieces[i]
			fields = append(fields, &p.Term, &p.Set, &p.Below, (*int)(&p.Kind))
		}
		for i := range s.Plurals {
			p := &s.Plurals[i]
			fields = append(fields, &p.Mod, &p.From, &p.To, &p.Class)
		}
		*fields[r.IntN(len(fields))] = oddNumber(r)
		switch r.IntN(20) {
		case 0:
			*set = nil
		case 1:
			rule.Pieces = nil
		case 2:
			s.Terms = s.Terms[:1]
		}
	}
}

// TestAnyValue: every function returns for all arguments, and refuses what Check refuses.
func TestAnyValue(t *testing.T) {
	for seed := range uint64(3000) {
		r := rand.New(rand.NewPCG(seed, 2))
		s := randomSystem(r)
		spoil(r, &s)
		a := api.Ask{Number: oddNumber(r), Set: oddNumber(r), Gender: oddNumber(r), Case: oddNumber(r)}
		if numeral.Check(s) != api.OK {
			refused(t, "spoiled", s, a, api.ErrArg)
			continue
		}
		numeral.Class(s, a.Number)
		numeral.Spell(s, a)
		numeral.Trace(s, a)
		a.Number = min(a.Number, 500)
		numeral.Read(s, a, []string{"a", "", "\xff"})
		numeral.Twins(s, a)
		numeral.Missing(s, a)
		numeral.Differ(s, systemE(), a)
		numeral.Uses(s, a, oddNumber(r), oddNumber(r))
		numeral.Longest(s, a)
	}
	refused(t, "zero", api.System{}, api.Ask{}, api.ErrArg)
}
