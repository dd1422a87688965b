package join_test

import (
	"math/rand/v2"
	"testing"

	"declaim/api"
	"declaim/join"
)

// Random arguments have the results of the model.

func TestRandomMeasures(t *testing.T) {
	forRandom(1000, func(r *rand.Rand) {
		wave := randomWave(r, fromTo(r, 1, 30))
		isOK(t, "Step", results(join.Step(wave)), modelStep(wave))
		isOK(t, "Loudness", results(join.Loudness(wave)), modelLoudness(wave))
	})
}

func TestRandomLag(t *testing.T) {
	seen := map[bool]int{}
	forRandom(3000, func(r *rand.Rand) {
		a, b := randomWave(r, r.IntN(15)), randomWave(r, r.IntN(25))
		n, reach := fromTo(r, 1, someOf(r, 3, 20)), someOf(r, r.IntN(4), r.IntN(30), greatest)
		lag, least, found := modelLag(a, b, n, reach)
		seen[found]++
		if !found {
			isError(t, "Lag", results(join.Lag(a, b, n, reach)), api.ErrNone)
			return
		}
		isOK(t, "Lag", results(join.Lag(a, b, n, reach)), lag, least)
		isOK(t, "Mismatch", results(join.Mismatch(a, b, n, lag)), least)
		other := r.IntN(len(b) - n + 1)
		isOK(t, "Mismatch", results(join.Mismatch(a, b, n, other)), modelMismatch(a, b, n, other))
	})
	if min(seen[false], seen[true]) < 500 {
		t.Errorf("only %v", seen)
	}
}

func TestRandomJoin(t *testing.T) {
	forRandom(2000, func(r *rand.Rand) {
		n := fromTo(r, 1, 10)
		a, b := randomWave(r, n+r.IntN(8)), randomWave(r, n+r.IntN(8))
		k := r.IntN(len(b) - n + 1)
		isOK(t, "Join", results(join.Join(a, b, n, k)), modelJoin(a, b, n, k))
		isOK(t, "Fade", results(join.Fade(a[:n], b[:n])), modelFade(a[:n], b[:n]))
	})
}

func TestRandomChain(t *testing.T) {
	seen := map[api.Errno]int{}
	forRandom(1500, func(r *rand.Rand) {
		n, reach := fromTo(r, 1, 5), someOf(r, 0, r.IntN(6), greatest)
		waves := manyOf(fromTo(r, 1, 6), func() []int { return randomWave(r, fromTo(r, someOf(r, 1, n, n), 12)) })
		chain, begins, e := modelChain(n, reach, waves)
		seen[e]++
		if e != api.OK {
			isError(t, "Chain", results(join.Chain(n, reach, waves...)), e)
		} else {
			isOK(t, "Chain", results(join.Chain(n, reach, waves...)), chain, begins)
		}
	})
	if min(seen[api.OK], seen[api.ErrNone]) < 200 {
		t.Errorf("only %v", seen)
	}
}

func TestRandomPeriods(t *testing.T) {
	forRandom(3000, func(r *rand.Rand) {
		m := randomMarked(r, someOf(r, 1, 3, 20), someOf(r, 1, 3, 20))
		num, den := randomRatio(r)
		isSame(t, "Valid", join.Valid(m), true)
		isOK(t, "Stretch", results(join.Stretch(m, num, den)), modelStretch(m, num, den))
		isOK(t, "Transpose", results(join.Transpose(m, num, den)), modelTranspose(m, num, den))
		isOK(t, "Sing", results(join.Sing(m, num, den)), modelSing(m, num, den))
	})
}

func TestRandomSmooth(t *testing.T) {
	forRandom(2000, func(r *rand.Rand) {
		m := randomMarked(r, 20, someOf(r, 1, 4, 10))
		w := fromTo(r, 1, someOf(r, 2, 5, 50))
		isOK(t, "Smooth", results(join.Smooth(m, w)), modelSmooth(m, w))
	})
}

func TestRandomGain(t *testing.T) {
	forRandom(2000, func(r *rand.Rand) {
		wave := randomWave(r, r.IntN(10))
		num, den := someOf(r, r.IntN(10), r.IntN(1000001)), someOf(r, fromTo(r, 1, 10), fromTo(r, 1, 1000000))
		changed, clips := modelGain(wave, num, den)
		isOK(t, "Gain", results(join.Gain(wave, num, den)), changed, clips)
	})
}

func TestRandomLoudest(t *testing.T) {
	forRandom(60, func(r *rand.Rand) {
		wave, den := randomWave(r, r.IntN(4)), someOf(r, 1, 2, 3, 1000, fromTo(r, 1, 1000000))
		isOK(t, "Loudest", results(join.Loudest(wave, den)), modelLoudest(wave, den))
	})
}

func TestRandomLevel(t *testing.T) {
	forRandom(25, func(r *rand.Rand) {
		wave, loudness := randomWave(r, fromTo(r, 1, 4)), someOf(r, r.IntN(10), r.IntN(32769))
		isOK(t, "Level", results(join.Level(wave, loudness)), modelLevel(wave, loudness))
	})
}
