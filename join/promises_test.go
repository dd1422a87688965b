package join_test

import (
	"fmt"
	"math/rand/v2"
	"slices"
	"testing"

	"declaim/api"
	"declaim/join"
)

func stepOf(wave []int) int {
	step, _ := join.Step(wave)
	return step
}

// loudest is the greatest absolute value of a sample.
func loudest(wave []int) int {
	most := 0
	for _, sample := range wave {
		most = max(most, sample, -sample)
	}
	return most
}

// TestLoudnessBound: the loudness is at most the greatest absolute value of a sample, and this value if all samples have it (P7.1).
func TestLoudnessBound(t *testing.T) {
	forRandom(1000, func(r *rand.Rand) {
		wave := randomWave(r, fromTo(r, 1, 40))
		loudness, e := join.Loudness(wave)
		if e != api.OK || loudness < 0 || loudness > loudest(wave) {
			t.Errorf("loudness %d of %v, error %d", loudness, wave, e)
		}
		loud := r.IntN(highest + 1)
		wave = manyOf(len(wave), func() int { return someOf(r, -loud, loud) })
		isOK(t, "equally loud", results(join.Loudness(wave)), loud)
	})
}

// TestEqualParts: if both parts of an overlap are equal, the crossfade is the same (P7.2).
func TestEqualParts(t *testing.T) {
	forRandom(500, func(r *rand.Rand) {
		wave := randomWave(r, fromTo(r, 1, 60))
		isOK(t, "Fade", results(join.Fade(wave, wave)), wave)
	})
}

// TestJoinedStep: the step of a joined wave is at most the greater one of both, plus the greatest difference of the overlap by n + 1, plus 1 (P7.2).
func TestJoinedStep(t *testing.T) {
	forRandom(2000, func(r *rand.Rand) {
		n := fromTo(r, 1, someOf(r, 1, 5, 30))
		a, b := randomWave(r, n+r.IntN(10)), randomWave(r, n+r.IntN(10))
		if isChance(r, 50) {
			a, b = flat(len(a), someOf(r, lowest, 0, 7)), flat(len(b), someOf(r, highest, 0, 9))
		}
		k := r.IntN(len(b) - n + 1)
		wave, e := join.Join(a, b, n, k)
		isSame(t, "error", e, api.OK)
		apart := 0
		for i := range n {
			apart = max(apart, a[len(a)-n+i]-b[k+i], b[k+i]-a[len(a)-n+i])
		}
		if more := stepOf(wave) - 1 - max(stepOf(a), stepOf(b)); more*(n+1) > apart {
			t.Errorf("%d more, with %d by %d", more, apart, n+1)
		}
	})
}

// TestNoBetterLag: no lag up to r has a smaller mismatch, and no one before the best one has the same (P7.2).
func TestNoBetterLag(t *testing.T) {
	forRandom(300, func(r *rand.Rand) {
		n, reach := fromTo(r, 1, 40), r.IntN(80)
		a, b := randomWave(r, n+r.IntN(40)), randomWave(r, n+r.IntN(80))
		lag, least, e := join.Lag(a, b, n, reach)
		isSame(t, "error", e, api.OK)
		isOK(t, "Mismatch", results(join.Mismatch(a, b, n, lag)), least)
		for k := range min(reach, len(b)-n) + 1 {
			if m, e := join.Mismatch(a, b, n, k); e != api.OK || m < least || m == least && k < lag {
				t.Errorf("lag %d has %d, error %d; lag %d has %d", k, m, e, lag, least)
			}
		}
	})
}

// TestChainOfJoins: a chain is made by Lag and Join, and its crossfades begin where it says (P7.2).
func TestChainOfJoins(t *testing.T) {
	forRandom(300, func(r *rand.Rand) {
		n, reach := fromTo(r, 1, 9), r.IntN(20)
		waves := manyOf(fromTo(r, 1, 9), func() []int { return randomWave(r, n+r.IntN(20)) })
		chain, begins, e := join.Chain(n, reach, waves...)
		isSame(t, "error", e, api.OK)
		whole := waves[0]
		for i, wave := range waves[1:] {
			lag, _, _ := join.Lag(whole, wave, n, reach)
			from := begins[i+1]
			isSame(t, "begin", from, len(whole)-n)
			faded, _ := join.Fade(whole[from:], wave[lag:lag+n])
			whole, _ = join.Join(whole, wave, n, lag)
			isSame(t, "crossfade", whole[from:from+n], faded)
		}
		isSame(t, "chain", chain, whole)
		isSame(t, "the first one", begins[0], 0)
	})
}

// ends are the head and the tail.
func ends(m api.Marked) [][]int {
	return [][]int{m.Samples[:m.Marks[0]], m.Samples[m.Marks[len(m.Marks)-1]:]}
}

// TestPeriods: by 1 / 1, nothing changes; each period of a stretched wave is one of the wave, in the same order; all results are valid; a transposed wave has as many periods as before (P7.3, P7.5).
func TestPeriods(t *testing.T) {
	forRandom(1000, func(r *rand.Rand) {
		m := randomMarked(r, 30, someOf(r, 1, 5, 30))
		same := fromTo(r, 1, 1000)
		isOK(t, "Stretch", results(join.Stretch(m, same, same)), m)
		isOK(t, "Transpose", results(join.Transpose(m, same, same)), m)
		isOK(t, "Sing", results(join.Sing(m, same, same)), m)

		num, den := randomRatio(r)
		stretched, _ := join.Stretch(m, num, den)
		transposed, _ := join.Transpose(m, num, den)
		sung, _ := join.Sing(m, num, den)
		smooth, _ := join.Smooth(m, fromTo(r, 1, 10))
		isSame(t, "Valid", join.Valid(smooth), true)
		isSame(t, "marks", smooth.Marks, m.Marks)
		for _, result := range []api.Marked{stretched, transposed, sung} {
			isSame(t, "Valid", join.Valid(result), true)
			isSame(t, "head and tail", ends(result), ends(m))
		}
		isSame(t, "periods", len(transposed.Marks), len(m.Marks))
		isSame(t, "stretched when transposed", sung, modelStretch(transposed, num, den))

		old := periodsOf(m)
		for _, period := range periodsOf(stretched) {
			for len(old) > 0 && !slices.Equal(old[0], period) {
				old = old[1:]
			}
			if len(old) == 0 {
				t.Fatalf("%v is no period, or in another order", period)
			}
		}
	})
}

// TestGreatestGain: with the greatest gain no sample is clipped; with a greater one, one is, unless it is 1000000 (P7.4).
func TestGreatestGain(t *testing.T) {
	forRandom(2000, func(r *rand.Rand) {
		wave, den := randomWave(r, r.IntN(10)), someOf(r, 1, fromTo(r, 1, 1000), fromTo(r, 1, 1000000))
		most, e := join.Loudest(wave, den)
		isSame(t, "error", e, api.OK)
		_, clips, _ := join.Gain(wave, most, den)
		isSame(t, "clips", clips, 0)
		if most < 1000000 {
			if _, clips, _ := join.Gain(wave, most+1, den); clips == 0 {
				t.Errorf("%v is not clipped by %d / %d", wave, most+1, den)
			}
		}
	})
}

// TestLevelOfGain: a leveled wave is one with a gain that clips nothing and is not too loud; with a greater one, it would be (P7.4).
func TestLevelOfGain(t *testing.T) {
	forRandom(500, func(r *rand.Rand) {
		wave, wanted := randomWave(r, fromTo(r, 1, 30)), someOf(r, r.IntN(100), r.IntN(32769))
		level, e := join.Level(wave, wanted)
		isSame(t, "error", e, api.OK)
		if loudness, _ := join.Loudness(level); loudness > wanted {
			t.Errorf("%v is louder than %d", level, wanted)
		}
		most, _ := join.Loudest(wave, 1000)
		found := false
		for num := most; num >= 0 && !found; num -= 1 + num/2000 {
			other, clips, _ := join.Gain(wave, num, 1000)
			isSame(t, "clips", clips, 0)
			loudness, _ := join.Loudness(other)
			if loudness <= wanted && loudest(other) > loudest(level) {
				t.Errorf("%v is louder than %v, but not too loud", other, level)
			}
			found = loudness <= wanted
		}
	})
}

// TestConsequences: those of P7.5; TestPeriods has that about transposed waves.
func TestConsequences(t *testing.T) {
	forRandom(1000, func(r *rand.Rand) {
		wave := randomWave(r, fromTo(r, 1, 60))
		from := r.IntN(len(wave))
		to := fromTo(r, from+1, len(wave))
		isOK(t, "cut and joined", results(join.Join(wave[:to], wave[from:], to-from, 0)), wave)

		period := randomWave(r, fromTo(r, 1, 6))
		wave = slices.Repeat(period, fromTo(r, 1, 8))
		n := fromTo(r, 1, len(wave))
		for k := range len(wave) - n + 1 {
			if m, _ := join.Mismatch(wave, wave, n, k); m != 0 {
				continue
			}
			joined, e := join.Join(wave, wave, n, k)
			if e != api.OK || stepOf(joined) > stepOf(wave) {
				t.Errorf("step %d, error %d, of %v with itself", stepOf(joined), e, wave)
			}
		}
	})
}

// TestMemory: no argument is changed, and results share no memory with arguments or each other.
func TestMemory(t *testing.T) {
	a, b, m := []int{9, 1, 2, 5}, []int{1, 2, 7, 300}, markedE()
	wave := api.Marked{Samples: []int{0, 9, 0, 9, 0}, Marks: []int{0, 2, 3, 5}}
	arguments := func() string { return fmt.Sprint(a, b, m, wave) }
	before := arguments()
	var lists [][]int
	once := func() string {
		faded, _ := join.Fade(a, b)
		joined, _ := join.Join(a, b, 2, 0)
		chain, begins, _ := join.Chain(2, 3, a, b, a)
		alone, only, _ := join.Chain(2, 3, a)
		gained, _, _ := join.Gain(a, 1, 1)
		level, _ := join.Level(a, 5)
		lists = [][]int{faded, joined, chain, begins, alone, only, gained, level}
		for _, change := range []func(api.Marked, int, int) (api.Marked, api.Errno){join.Stretch, join.Transpose, join.Sing} {
			same, _ := change(m, 1, 1)
			twice, _ := change(m, 2, 1)
			lists = append(lists, same.Samples, same.Marks, twice.Samples, twice.Marks)
		}
		smooth, _ := join.Smooth(wave, 1)
		lists = append(lists, smooth.Samples, smooth.Marks)
		step, _ := join.Step(a)
		loudness, _ := join.Loudness(a)
		mismatch, _ := join.Mismatch(a, b, 2, 1)
		lag, least, _ := join.Lag(a, b, 2, 3)
		most, _ := join.Loudest(a, 5)
		return fmt.Sprint(lists, step, loudness, mismatch, lag, least, most, join.Valid(m))
	}
	want := once()
	for _, list := range lists {
		if len(list) == 0 {
			t.Error("an empty list")
		}
		for i := range list {
			list[i] = -1000
		}
	}
	for _, list := range lists {
		_ = append(list, -2000)
	}
	for _, list := range lists {
		if slices.Max(list) > -1000 || slices.Min(list) < -1000 {
			t.Errorf("shared: %v", list)
		}
	}
	isSame(t, "arguments", arguments(), before)
	isSame(t, "results", once(), want)
}

// TestLimits: the longest waves, and most waves.
func TestLimits(t *testing.T) {
	low, high := flat(api.MaxWave, lowest), flat(api.MaxWave, highest)
	isOK(t, "the greatest mismatch", results(join.Mismatch(low, high, api.MaxWave, 0)), api.MaxWave*65535*65535)
	isOK(t, "Lag", results(join.Lag(low, high, api.MaxWave, greatest)), 0, api.MaxWave*65535*65535)
	isOK(t, "Loudness", results(join.Loudness(low)), 32768)
	faded, e := join.Fade(low, high)
	isOK(t, "Fade", results(faded[0], faded[api.MaxWave-1], stepOf(faded), e), lowest+1, highest-1, 1)

	for i := range high {
		high[i] = i % 1000
	}
	lag, least, e := join.Lag(high[:20777], high, 20000, greatest)
	isOK(t, "a long overlap", results(lag, least, e), 777, 0)
	waves := slices.Repeat([][]int{high[:3000]}, api.MaxWaves)
	chain, begins, e := join.Chain(2900, 0, waves...)
	isOK(t, "Chain", results(len(chain), begins[api.MaxWaves-1], e), 3000+499*100, 499*100)

	every := make([]int, api.MaxWave+1)
	for i := range every {
		every[i] = i
	}
	m := api.Marked{Samples: high, Marks: every}
	for _, width := range []int{1, 1000} {
		smooth, e := join.Smooth(m, width)
		isOK(t, "Smooth", results(join.Valid(smooth), e), true)
	}
	level, e := join.Level(high, 5000)
	isOK(t, "Level", results(level[999] > 8000, e), true)
}

// TestAnyValue: every function returns for all arguments, with zero values if there is an error, and valid waves if there is none.
func TestAnyValue(t *testing.T) {
	right := 0
	forRandom(20000, func(r *rand.Rand) {
		number := func() int {
			if isChance(r, 95) {
				return r.IntN(4)
			}
			return someOf(r, int(r.Uint64()), least, lowest-1, lowest, -1, 16, 17, 1000, 1001, highest, highest+1, 1000000, 1000001, greatest)
		}
		wave := func() []int { return manyOf(r.IntN(6), number) }
		m := api.Marked{Samples: wave(), Marks: wave()}
		if isChance(r, 80) {
			m.Marks = []int{0, number(), len(m.Samples)}
		}
		for i, got := range [][]any{
			results(join.Step(wave())),
			results(join.Loudness(wave())),
			results(join.Mismatch(wave(), wave(), number(), number())),
			results(join.Lag(wave(), wave(), number(), number())),
			results(join.Fade(wave(), wave())),
			results(join.Join(wave(), wave(), number(), number())),
			results(join.Chain(number(), number(), manyOf(r.IntN(4), wave)...)),
			results(join.Stretch(m, number(), number())),
			results(join.Transpose(m, number(), number())),
			results(join.Sing(m, number(), number())),
			results(join.Smooth(m, number())),
			results(join.Gain(wave(), number(), number())),
			results(join.Loudest(wave(), number())),
			results(join.Level(wave(), number())),
		} {
			if e := got[len(got)-1].(api.Errno); e != api.OK {
				isError(t, fmt.Sprint("call ", i), got, e)
				continue
			}
			right++
			if result, marked := got[0].(api.Marked); marked {
				isSame(t, "Valid", join.Valid(result) && join.Valid(m), true)
			}
		}
	})
	if right < 100000 {
		t.Errorf("only %d without an error", right)
	}
}
