package house_test

import (
	"fmt"
	"math/rand/v2"
	"reflect"
	"slices"
	"strings"
	"testing"

	"declaim/api"
	"declaim/house"
	"declaim/join"
	"declaim/text"
)

// TestWordsDiffer: words of different messages are different (P10.1).
func TestWordsDiffer(t *testing.T) {
	for _, bits := range []int{1, 5, 10} {
		seen := map[string]bool{}
		for message := range 1 << bits {
			word, e := house.Word(api.Stamp{Key: 77, Period: 4, Bits: bits, Margin: 1}, message)
			isSame(t, "Word", results(len(word), e), results(bits+16, api.OK))
			seen[fmt.Sprint(word)] = true
		}
		isSame(t, "words", len(seen), 1<<bits)
	}
}

// finds tells whether a mark is found with a message at an offset.
func finds(t *testing.T, a []int, m api.Stamp, threshold, offset, message int) bool {
	t.Helper()
	all, e := house.Find(a, m, threshold)
	isSame(t, "Find", e, api.OK)
	return slices.Contains(all, find(offset, message))
}

// quietMark marks a random wave that cannot become too loud.
func quietMark(t *testing.T, r *rand.Rand) ([]int, api.Stamp, int) {
	t.Helper()
	m := randomStamp(r)
	m.Period, m.Bits = min(m.Period, 40), min(m.Bits, 8)
	message := randomMessage(r, m)
	a, _, e := house.Sign(randomWave(r, frameOf(m)*fromTo(r, 1, 3)+r.IntN(50), someOf(r, 0, 5, 2000)), m, message)
	isSame(t, "Sign", e, api.OK)
	return a, m, message
}

// TestFramesFound: in a marked wave, the message is found at the beginning of each frame, for each threshold up to the margin (P10.2).
func TestFramesFound(t *testing.T) {
	forRandom(400, func(r *rand.Rand) {
		a, m, message := quietMark(t, r)
		for frame := range len(a) / frameOf(m) {
			for _, threshold := range []int{1, m.Margin, fromTo(r, 1, m.Margin)} {
				isSame(t, "found", finds(t, a, m, threshold, frame*frameOf(m), message), true)
			}
		}
	})
}

// TestMarginNeeded: a mark without the last unit of its depth would not have the margin (P10.2).
func TestMarginNeeded(t *testing.T) {
	forRandom(200, func(r *rand.Rand) {
		m := randomStamp(r)
		m.Period, m.Margin = min(m.Period, 40), fromTo(r, 1, 3000)
		a, depth, e := house.Sign(flat(frameOf(m), 0), m, randomMessage(r, m))
		isSame(t, "Sign", e, api.OK)
		for _, sample := range a {
			isSame(t, "sample", modelAbs(sample), depth)
		}
		isSame(t, "enough", depth*m.Period >= m.Margin && (depth-1)*m.Period < m.Margin, true)
	})
}

// TestSurvivors: if a mark survives, it is found after the gain, noise, and a cut that keeps a whole frame (P10.2).
func TestSurvivors(t *testing.T) {
	survived, lost := 0, 0
	forRandom(3000, func(r *rand.Rand) {
		a, m, message := quietMark(t, r)
		num, den := fromTo(r, 1, 20), fromTo(r, 1, 20)
		noise, threshold := someOf(r, 0, r.IntN(4), r.IntN(100)), someOf(r, 1, fromTo(r, 1, m.Margin))
		survives, e := house.Survives(m, threshold, num, den, noise)
		isSame(t, "Survives", e, api.OK)
		a, clips, _ := join.Gain(a, num, den)
		for i := range a {
			a[i] += someOf(r, -noise, noise, fromTo(r, -noise, noise))
		}
		if clips > 0 || slices.Max(a) > highest || slices.Min(a) < lowest {
			return
		}
		frame := r.IntN(len(a) / frameOf(m))
		begin := r.IntN(frame*frameOf(m) + 1)
		end := fromTo(r, (frame+1)*frameOf(m), len(a))
		found := finds(t, a[begin:end], m, threshold, frame*frameOf(m)-begin, message)
		if survives {
			survived++
			isSame(t, "found", found, true)
		} else if !found {
			lost++
		}
	})
	if min(survived, lost) < 300 {
		t.Errorf("only %d survived, %d lost", survived, lost)
	}
}

// TestWorstNoise: a mark that just survives is found after noise against it, and one that does not is lost (P10.2).
func TestWorstNoise(t *testing.T) {
	for margin := 40; margin < 60; margin++ {
		m := api.Stamp{Key: oneKey, Period: 4, Bits: 1, Margin: margin}
		a, _, _ := house.Sign(flat(72, -1000), m, 1)
		a[3] = margin - a[0] - a[1] - a[2] // so that the first period has the margin alone
		for i := range a {
			a[i] -= 3
		}
		survives, _ := house.Survives(m, 30, 1, 1, 3)
		isSame(t, "Survives", survives, margin >= 44)
		isSame(t, "found", finds(t, a, m, 30, 0, 1), margin >= 42) // nothing is rounded here, which half of the period is for
	}
}

// TestRate: of all choices of chips, the ones with which samples are found are counted (P10.3).
func TestRate(t *testing.T) {
	forRandom(60, func(r *rand.Rand) {
		x := randomWave(r, fromTo(r, 4, 11), someOf(r, 3, 30000))
		threshold, found := fromTo(r, 1, 40000), 0
		for choice := range 1 << len(x) {
			sum := 0
			for i, sample := range x {
				sum += sample * modelSign(choice>>i&1 == 1)
			}
			if sum >= threshold {
				found++
			}
		}
		isOK(t, "Count", results(house.Count(x, threshold)), chance(found, 1<<len(x)))
	})
}

// TestFirstPeriods: with many keys, a first period of 4 samples is found about as often as is counted (P10.3).
func TestFirstPeriods(t *testing.T) {
	samples := []int{5, -9, 2, 3}
	const keys = 20000
	for _, threshold := range []int{1, 9, 10, 19} {
		rate, _ := house.Count(samples, threshold)
		found := 0
		for key := range keys {
			chips, _ := house.Chips(key*977, 4)
			if samples[0]*chips[0]+samples[1]*chips[1]+samples[2]*chips[2]+samples[3]*chips[3] >= threshold {
				found++
			}
		}
		want := keys * rate.Of / rate.All
		if found < want-600 || found > want+600 {
			t.Errorf("threshold %d: %d of %d keys, not about %d", threshold, found, keys, want)
		}
	}
}

// TestChances: Count of two thresholds, Flips and Signs belong together (P10.3).
func TestChances(t *testing.T) {
	forRandom(300, func(r *rand.Rand) {
		x := randomWave(r, r.IntN(25), someOf(r, 1, 50))
		threshold := fromTo(r, -60, 60)
		is, _ := house.Count(x, threshold)
		not, _ := house.Count(x, 1-threshold) // as many are at most threshold - 1
		isSame(t, "all", is.Of+not.Of, is.All)
		more, _ := house.Count(x, threshold+1)
		isSame(t, "fewer", more.Of <= is.Of, true)
		all, _ := house.Flips(x)
		isSame(t, "itself and its opposite", all.Of >= min(2, all.All), true)
		wins := 0
		for i, n := range x {
			if n > 0 {
				wins, x[i] = wins+1, 1
			} else {
				x[i] = -1
			}
		}
		isOK(t, "Flips", results(house.Flips(x)), results(house.Signs(wins, len(x)))[0])
	})
}

// TestSquaresBalanced: each square is balanced (P10.4).
func TestSquaresBalanced(t *testing.T) {
	for n := 1; n <= api.MaxVoices; n++ {
		plan, e := house.Square(n)
		isSame(t, "Square", results(len(plan), e), results(n*(1+n%2), api.OK))
		isSame(t, "Balanced", house.Balanced(plan, n) && modelBalanced(plan, n), true)
		isSame(t, "of others", house.Balanced(plan, n+1) || house.Balanced(plan, n-1), false)
		if n > 1 {
			plan[n-1][0], plan[n-1][n-1] = plan[n-1][n-1], plan[n-1][0]
			isSame(t, "exchanged", house.Balanced(plan, n), false)
		}
	}
}

// TestUnchanged: waves without changes are equal; outside of changes, waves are (P10.5).
func TestUnchanged(t *testing.T) {
	forRandom(1000, func(r *rand.Rand) {
		a, b := randomWave(r, r.IntN(12), 1), randomWave(r, r.IntN(12), 1)
		distance := fromTo(r, 1, 4)
		all, e := house.Changes(a, b, distance)
		isSame(t, "none", len(all) == 0 && e == api.OK, slices.Equal(a, b))
		for i, c := range all {
			if c.From >= c.To || i > 0 && c.From-(all[i-1].To-1) <= distance {
				t.Errorf("%v and %v: %v", a, b, all)
			}
		}
		for i := range min(len(a), len(b)) {
			in := slices.ContainsFunc(all, func(c api.Change) bool { return c.From <= i && i < c.To })
			if a[i] != b[i] && !in {
				t.Errorf("%v and %v: %v", a, b, all)
			}
		}
	})
}

// TestSomeoneSuspected: if two grammars that differ in conventions alone read a text with different words, there is a suspect (P10.5).
func TestSomeoneSuspected(t *testing.T) {
	different := 0
	forRandom(2000, func(r *rand.Rand) {
		g, written := randomGrammar(r), randomText(r, r.IntN(8))
		h := changed(r, changed(r, g))
		blamed, e := house.Blame([]api.Grammar{g, h}, written)
		isSame(t, "Blame", e, api.OK)
		suspects, e := house.Suspects(g, h, written)
		isSame(t, "Suspects", e, api.OK)
		if len(blamed) > 0 {
			different++
			isSame(t, "somebody", len(suspects) > 0, true)
		}
	})
	if different < 200 {
		t.Errorf("only %d different", different)
	}
}

// TestPatched: the text is read with the words there, and each text that is read in another way contains the piece (P10.6).
func TestPatched(t *testing.T) {
	patched, differing := 0, 0
	forRandom(1500, func(r *rand.Rand) {
		g, before, piece := randomGrammar(r), randomText(r, r.IntN(3)), randomText(r, fromTo(r, 1, 2))
		written, words := before+piece+randomText(r, r.IntN(4)), randomWords(r)
		corpus := manyOf(10, func() string { return randomText(r, r.IntN(6)) })
		h, differ, e := house.Patch(g, written, len(before), len(before)+len(piece), words, corpus)
		if e != api.OK {
			return
		}
		patched++
		isSame(t, "Check", text.Check(h), api.OK)
		best, _, e := text.Best(h, written)
		isSame(t, "Best", e, api.OK)
		if !slices.ContainsFunc(best.Steps, func(s api.Step) bool {
			return s.From == len(before) && s.To == s.From+len(piece) && slices.Equal(s.Words, words)
		}) {
			t.Errorf("%q: no %q in %v", written, words, best)
		}
		for i, text := range corpus {
			is := slices.Contains(differ, i)
			if is {
				differing++
			}
			if is && !strings.Contains(text, piece) || is != modelDiffer(g, h, text) {
				t.Errorf("%q for %q: %q differs: %v", words, piece, text, is)
			}
		}
	})
	if patched < 500 || differing < 300 {
		t.Errorf("only %d patched, %d differing", patched, differing)
	}
}

// TestMarkedTwice: marking a marked wave with the same mark and message changes nothing (P10.7).
func TestMarkedTwice(t *testing.T) {
	forRandom(300, func(r *rand.Rand) {
		a, m, message := quietMark(t, r)
		isOK(t, "Sign", results(house.Sign(a, m, message)), a, 0)
		m.Margin = fromTo(r, 1, m.Margin)
		isOK(t, "Sign with less", results(house.Sign(a, m, message)), a, 0)
	})
}

// TestOtherKeys: nothing is found with other keys, and no other message with the key (P10.7).
func TestOtherKeys(t *testing.T) {
	forRandom(200, func(r *rand.Rand) {
		m := api.Stamp{Key: r.IntN(api.MaxKey), Period: fromTo(r, 20, 40), Bits: fromTo(r, 1, 8), Margin: 400}
		message := randomMessage(r, m)
		a, _, _ := house.Sign(randomWave(r, frameOf(m), 5), m, message)
		isOK(t, "Find", results(house.Find(a, m, 400)), []api.Find{find(0, message)})
		m.Key = m.Key ^ 1<<r.IntN(62)
		isOK(t, "Find with another key", results(house.Find(a, m, 100)), []api.Find{})
	})
}

// TestOrderOfIntegers: a chance does not depend on the signs of integers, nor on their order (P10.7).
func TestOrderOfIntegers(t *testing.T) {
	forRandom(300, func(r *rand.Rand) {
		x := randomWave(r, r.IntN(20), someOf(r, 5, 1000000))
		threshold := someOf(r, 0, fromTo(r, -3000, 3000), fromTo(r, -3000000, 3000000))
		want, e := house.Count(x, threshold)
		r.Shuffle(len(x), func(i, j int) { x[i], x[j] = x[j], x[i] })
		for i := range x {
			x[i] *= someOf(r, 1, -1)
		}
		isSame(t, "Count", results(house.Count(x, threshold)), results(want, e))
	})
}

// overwrite changes everything that lists hold, and what lies behind their ends.
func overwrite(v reflect.Value) {
	switch v.Kind() {
	case reflect.Slice:
		for i := range v.Len() {
			overwrite(v.Index(i))
		}
		if v.Len() > 0 {
			reflect.Append(v, v.Index(0))
		}
	case reflect.Struct:
		for i := range v.NumField() {
			if v.Field(i).Kind() == reflect.Slice || v.CanSet() {
				overwrite(v.Field(i))
			}
		}
	case reflect.Int, reflect.Int32:
		v.SetInt(v.Int() + 1)
	case reflect.String:
		v.SetString("overwritten")
	case reflect.Bool:
		v.SetBool(!v.Bool())
	}
}

// everything is a grammar with lists in all of its fields.
func everything() api.Grammar {
	g := with(api.Convention{Pattern: pattern(exactly("z")), Says: says(sayWords("zed", "z")), Cost: 3, Before: []int{-1, 1}, After: []int{2, -1}})
	g.Sorts = append(g.Sorts, []api.Span{{From: 'x', To: 'y'}, {From: 'z', To: 'z'}})
	g.Tables = append(g.Tables, []api.Row{{Text: "m", Words: []string{"metres", "long"}}, {Text: "s"}})
	g.Nouns = append(g.Nouns, api.Noun{Word: "metres"})
	g.Contexts = append(g.Contexts, api.Context{Left: 5, Right: -1, Cost: 1})
	return g
}

// TestMemory: no argument is changed or kept, and results share no memory with arguments or each other.
func TestMemory(t *testing.T) {
	m := stampOnes()
	a, b := flat(80, 1), []int{1, 2, 3}
	l := []api.Chance{chance(1, 100), chance(1, 20), chance(1, 30)}
	plan, _ := house.Square(3)
	versions := []api.Grammar{everything(), withCost(3, 9)}
	words, corpus := []string{"some", "words"}, []string{"kg", "7 kg"}
	arguments := func() string { return fmt.Sprint(a, b, l, plan, versions, words, corpus) }
	before := arguments()

	var lists []any
	once := func() string {
		chips, _ := house.Chips(7, 8)
		word, _ := house.Word(m, 1)
		marked, depth, _ := house.Sign(a, m, 1)
		unmarked, _, _ := house.Sign(b, m, 1)
		found, _ := house.Find(marked, m, 20)
		count, _ := house.Count(b, 2)
		flipped, _ := house.Flips(b)
		accepted, _ := house.Holm(l, 1, 20)
		square, _ := house.Square(5)
		changes, _ := house.Changes(a, b, 1)
		blamed, _ := house.Blame(versions, "7 kg")
		suspects, _ := house.Suspects(versions[0], versions[1], "7 kg")
		g, differ, _ := house.Patch(versions[0], "kg", 0, 2, words, corpus)
		lists = []any{chips, word, marked, unmarked, found, accepted, square, changes, blamed, suspects, g, differ}
		return fmt.Sprint(lists, depth, count, flipped, house.Balanced(plan, 3))
	}
	want := once()
	for i, list := range lists {
		rest := fmt.Sprint(lists[:i], lists[i+1:])
		was := fmt.Sprint(list)
		overwrite(reflect.ValueOf(list))
		isSame(t, "overwritten", fmt.Sprint(list) != was, true)
		isSame(t, "other results", fmt.Sprint(lists[:i], lists[i+1:]), rest)
	}
	isSame(t, "arguments", arguments(), before)
	isSame(t, "results", once(), want)

	results := fmt.Sprint(lists)
	for _, argument := range []any{a, b, l, plan, versions, words, corpus} {
		overwrite(reflect.ValueOf(argument))
	}
	isSame(t, "arguments overwritten", arguments() != before, true)
	isSame(t, "kept", fmt.Sprint(lists), results)
}

// TestLists: within the lists of a patched grammar and of a square, no two share memory.
func TestLists(t *testing.T) {
	square, _ := house.Square(3)
	square[0] = append(square[0], 9)
	square[3][0] = 7
	isSame(t, "Square", square, [][]int{{0, 1, 2, 9}, {1, 2, 0}, {2, 0, 1}, {7, 1, 0}, {0, 2, 1}, {1, 0, 2}})
	words := []string{"a", "b"}
	shared := everything()
	shared.Conventions[5].Says = append(shared.Conventions[5].Says, shared.Conventions[5].Says[0])
	shared.Conventions[5].After = shared.Conventions[5].Before
	shared.Tables[1][1].Words = shared.Tables[1][0].Words
	g, _, e := house.Patch(shared, "kg", 0, 2, words, nil)
	isSame(t, "Patch", e, api.OK)
	g.Conventions[5].Says[0].Words[0] = "other"
	g.Conventions[5].Before[0] = 77
	g.Tables[1][0].Words[0] = "other"
	isSame(t, "Patch", results(g.Conventions[5].Says[1].Words, g.Conventions[5].After, g.Tables[1][1].Words), results([]string{"zed", "z"}, []int{-1, 1}, []string{"metres", "long"}))
}

// TestLimits: the greatest of all.
func TestLimits(t *testing.T) {
	m := api.Stamp{Key: api.MaxKey, Period: 256, Bits: 16, Margin: 256 * 30000}
	a, depth, e := house.Sign(flat(api.MaxWave, 0), m, 65535)
	isOK(t, "Sign", results(depth, slices.Max(a), slices.Min(a), e), 30000, 30000, -30000)
	all, e := house.Find(a, m, m.Margin)
	isOK(t, "Find", results(len(all), all[10], e), 11, find(10*33*256, 65535))

	var x []int
	for i := range api.MaxSigned {
		x = append(x, 1000000000-i*i*i*i*397+i)
	}
	is, e := house.Count(x, 5000000000)
	not, _ := house.Count(x, 1-5000000000)
	isOK(t, "Count", results(is.Of+not.Of, is.Of > 0 && is.Of < not.Of, e), 1<<40, true)
	flips, e := house.Flips(x)
	isOK(t, "Flips", results(flips, e), chance(2, 1<<40))

	rows := slices.Repeat([][]int{slices.Repeat([]int{0}, 60)}, 1000)
	isSame(t, "Balanced", house.Balanced(rows, 60), false)
	every := flat(api.MaxWave, 0)
	for i := range every {
		every[i] = i % 2
	}
	changes, e := house.Changes(every, flat(api.MaxWave, 0), 1)
	isOK(t, "Changes", results(len(changes), changes[49999], e), 50000, change(99999, 100000, 1))
	changes, e = house.Changes(every, nil, 1)
	isOK(t, "Changes", results(changes, e), []api.Change{change(0, 100000, 0)})

	g, differ, e := house.Patch(grammarE(), strings.Repeat("7 ", 1000), 1998, 2000, []string{"end"}, slices.Repeat([]string{strings.Repeat("7 ", 20)}, 500))
	isOK(t, "Patch", results(g.Conventions[5], len(differ), e), literal("7 ", 0, "end"), 500)
}

// TestAnyValue: every function returns for all arguments, with zero values if there is an error.
func TestAnyValue(t *testing.T) {
	right := 0
	forRandom(10000, func(r *rand.Rand) {
		number := func() int {
			if isChance(r, 90) {
				return fromTo(r, 0, 5)
			}
			return someOf(r, int(r.Uint64()), least, lowest-1, -1, 16, 60, 256, 1000, highest+1, 1<<62, greatest)
		}
		wave := func() []int { return manyOf(r.IntN(someOf(r, 5, 200)), number) }
		m := api.Stamp{Key: number(), Period: number(), Bits: number(), Margin: number()}
		if isChance(r, 80) {
			m = randomStamp(r)
		}
		g, h := randomGrammar(r), randomGrammar(r)
		if isChance(r, 10) {
			g.Conventions[0].Cost = number()
		}
		text := func() string { return randomText(r, r.IntN(5)) + someOf(r, "", "", "", "\xff") }
		plan := manyOf(r.IntN(4), func() []int { return manyOf(r.IntN(4), number) })
		house.Balanced(plan, number())
		for i, got := range [][]any{
			results(house.Chips(number(), number())),
			results(house.Word(m, number())),
			results(house.Sign(wave(), m, number())),
			results(house.Find(wave(), m, number())),
			results(house.Survives(m, number(), number(), number(), number())),
			results(house.Count(manyOf(r.IntN(9), number), number())),
			results(house.Flips(manyOf(r.IntN(9), number))),
			results(house.Signs(number(), number())),
			results(house.Holm(manyOf(r.IntN(4), func() api.Chance { return chance(number(), number()) }), number(), number())),
			results(house.Square(number())),
			results(house.Changes(wave(), wave(), number())),
			results(house.Blame([]api.Grammar{g, h}, text())),
			results(house.Suspects(g, h, text())),
			results(house.Patch(g, text(), number(), number(), manyOf(r.IntN(2), text), manyOf(r.IntN(3), text))),
		} {
			if e := got[len(got)-1].(api.Errno); e != api.OK {
				isError(t, fmt.Sprint("call ", i), got, e)
			} else {
				right++
			}
		}
	})
	if right < 50000 {
		t.Errorf("only %d without an error", right)
	}
}
