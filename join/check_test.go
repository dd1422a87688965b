package join_test

import (
	"slices"
	"testing"

	"declaim/api"
	"declaim/join"
)

// callsWith are all calls with a wave in each of their places; whatever else they have is right, or else wrong.
func callsWith(wave []int, right bool) map[string][]any {
	n, num, den, w, loudness := 1, 1, 1, 1, 5
	if !right {
		n, num, den, w, loudness = 0, -1, 0, 0, -1
	}
	other, one := slices.Repeat([]int{1}, len(wave)), []int{1}
	m := api.Marked{Samples: wave, Marks: []int{0, n}}
	return map[string][]any{
		"Mismatch, before": results(join.Mismatch(wave, one, n, 0)),
		"Mismatch, behind": results(join.Mismatch(one, wave, n, 0)),
		"Lag, before":      results(join.Lag(wave, one, n, 0)),
		"Lag, behind":      results(join.Lag(one, wave, n, 0)),
		"Fade, before":     results(join.Fade(wave, other[:len(wave)-1+n])),
		"Fade, behind":     results(join.Fade(other[:len(wave)-1+n], wave)),
		"Join, before":     results(join.Join(wave, one, n, 0)),
		"Join, behind":     results(join.Join(one, wave, n, 0)),
		"Chain, before":    results(join.Chain(n, 0, wave, one)),
		"Chain, behind":    results(join.Chain(n, 0, one, one, wave)),
		"Chain, alone":     results(join.Chain(n, 0, wave)),
		"Stretch":          results(join.Stretch(m, num, den)),
		"Transpose":        results(join.Transpose(m, num, den)),
		"Sing":             results(join.Sing(m, num, den)),
		"Smooth":           results(join.Smooth(m, w)),
		"Gain":             results(join.Gain(wave, num, den)),
		"Loudest":          results(join.Loudest(wave, den)),
		"Level":            results(join.Level(wave, loudness)),
	}
}

// judgeWave judges all calls with a wave that is not empty.
func judgeWave(t *testing.T, name string, want api.Errno, wave []int) {
	t.Helper()
	isSame(t, name, join.Valid(api.Marked{Samples: wave, Marks: []int{0, 1}}), want == api.OK)
	judge(t, name+": Step", want, results(join.Step(wave)))
	judge(t, name+": Loudness", want, results(join.Loudness(wave)))
	for call, got := range callsWith(wave, true) {
		judge(t, name+": "+call, want, got)
	}
	for call, got := range callsWith(wave, false) {
		judge(t, name+": wrong "+call, max(want, api.ErrArg), got)
	}
}

func TestCheckSamples(t *testing.T) {
	for n, valid := range bounds(lowest, highest) {
		for at := range 3 {
			wave := []int{1, 2, 3}
			wave[at] = n
			judgeWave(t, "sample", orArg(valid), wave)
		}
		judgeWave(t, "one sample", orArg(valid), []int{n})
	}
}

func TestCheckLength(t *testing.T) {
	judgeWave(t, "as long as may be", api.OK, flat(api.MaxWave, 7))
	judgeWave(t, "too long", api.ErrLong, flat(api.MaxWave+1, 7))
	judgeWave(t, "too long and wrong", api.ErrLong, flat(api.MaxWave+1, highest+1))
	wrong, long := []int{lowest - 1}, flat(api.MaxWave+1, 0)
	for call, got := range map[string][]any{
		"Mismatch": results(join.Mismatch(wrong, long, 1, 0)),
		"Lag":      results(join.Lag(wrong, long, 1, 0)),
		"Fade":     results(join.Fade(wrong, long)),
		"Join":     results(join.Join(wrong, long, 1, 0)),
		"Chain":    results(join.Chain(1, 0, wrong, nil, long)),
	} {
		judge(t, "too long after a wrong one: "+call, api.ErrLong, got)
	}
	judge(t, "all too long", api.ErrLong, results(join.Fade(long, long)))
	isSame(t, "too long a wave for marks", join.Valid(api.Marked{Samples: long, Marks: []int{0, api.MaxWave + 1}}), false)
}

func TestCheckEmpty(t *testing.T) {
	judge(t, "Step", api.OK, results(join.Step(nil)))
	judge(t, "Loudness", api.ErrArg, results(join.Loudness(nil)))
	judge(t, "Gain", api.OK, results(join.Gain(nil, 1, 1)))
	judge(t, "Loudest", api.OK, results(join.Loudest(nil, 1)))
	judge(t, "Level", api.ErrArg, results(join.Level(nil, 5)))
	judgeMarked(t, "nothing", false, api.Marked{})
}

func TestCheckChain(t *testing.T) {
	waves := func(n int) [][]int { return slices.Repeat([][]int{{1, 2}}, n) }
	for n, want := range map[int]api.Errno{0: api.ErrArg, 1: api.OK, api.MaxWaves: api.OK, api.MaxWaves + 1: api.ErrLong} {
		judge(t, "waves", want, results(join.Chain(1, 1, waves(n)...)))
		judge(t, "waves and a wrong overlap", max(want, api.ErrArg), results(join.Chain(0, 1, waves(n)...)))
		judge(t, "waves and a wrong reach", max(want, api.ErrArg), results(join.Chain(1, -1, waves(n)...)))
	}
	judge(t, "too many wrong waves", api.ErrLong, results(join.Chain(1, 1, slices.Repeat([][]int{{highest + 1}}, api.MaxWaves+1)...)))
	judge(t, "too many empty waves", api.ErrLong, results(join.Chain(1, 1, make([][]int, api.MaxWaves+1)...)))
	judge(t, "a wrong wave after one without an overlap", api.ErrArg, results(join.Chain(2, 1, []int{1, 2}, nil, []int{highest + 1})))
	judge(t, "a wrong wave after too long a result", api.ErrArg, results(join.Chain(1, 0, flat(60000, 1), flat(60000, 1), []int{highest + 1})))
}

// TestCheckOverlap: overlaps and lags of Lag and Chain; TestMismatches has those of Mismatch and Join.
func TestCheckOverlap(t *testing.T) {
	a, b := []int{1, 2, 3}, []int{4, 5, 6}
	for n, want := range map[int]api.Errno{least: api.ErrArg, -1: api.ErrArg, 0: api.ErrArg, 1: api.OK, 3: api.OK, 4: api.ErrNone, greatest: api.ErrNone} {
		judge(t, "Lag", want, results(join.Lag(a, b, n, 0)))
		judge(t, "Chain", want, results(join.Chain(n, 0, a, b)))
		judge(t, "Lag with a wrong reach", api.ErrArg, results(join.Lag(a, b, n, -1)))
		judge(t, "Chain with a wrong reach", api.ErrArg, results(join.Chain(n, -1, a, b)))
	}
	for r, want := range map[int]api.Errno{least: api.ErrArg, -1: api.ErrArg, 0: api.OK, 2: api.OK, 3: api.OK, greatest: api.OK} {
		judge(t, "Lag", want, results(join.Lag(a, b, 1, r)))
		judge(t, "Chain", want, results(join.Chain(1, r, a, b)))
		judge(t, "one wave", want, results(join.Chain(1, r, a)))
	}
}

func TestCheckJoin(t *testing.T) {
	a, b := flat(60000, 1), flat(60000, 1)
	for k, want := range map[int]api.Errno{0: api.ErrLong, 19998: api.ErrLong, 19999: api.OK, 59999: api.OK, 60000: api.ErrArg} {
		judge(t, "lags", want, results(join.Join(a, b, 1, k)))
	}
	for n, want := range map[int]api.Errno{19999: api.ErrLong, 20000: api.OK, 60000: api.OK, 60001: api.ErrArg} {
		judge(t, "overlaps", want, results(join.Join(a, b, n, 0)))
	}
	a[0] = highest + 1
	judge(t, "a wrong wave and too long a result", api.ErrArg, results(join.Join(a, b, 1, 0)))
}

// judgeMarked judges all calls with a wave with marks.
func judgeMarked(t *testing.T, name string, valid bool, m api.Marked) {
	t.Helper()
	isSame(t, name, join.Valid(m), valid)
	judge(t, name, orArg(valid), results(join.Stretch(m, 1, 1)))
	judge(t, name, orArg(valid), results(join.Transpose(m, 1, 1)))
	judge(t, name, orArg(valid), results(join.Sing(m, 1, 1)))
	judge(t, name, orArg(valid), results(join.Smooth(m, 1)))
}

func TestCheckMarks(t *testing.T) {
	for _, c := range []struct {
		name  string
		marks []int
		valid bool
	}{
		{"both ends", []int{0, 5}, true},
		{"two", []int{1, 2}, true},
		{"all", []int{0, 1, 2, 3, 4, 5}, true},
		{"none", nil, false},
		{"one", []int{3}, false},
		{"below", []int{-1, 5}, false},
		{"above", []int{0, 6}, false},
		{"far below", []int{least, 5}, false},
		{"far above", []int{0, greatest}, false},
		{"equal", []int{2, 2}, false},
		{"equal ones behind", []int{0, 2, 2}, false},
		{"equal ones at the end", []int{0, 5, 5}, false},
		{"decreasing", []int{3, 2}, false},
		{"decreasing behind", []int{0, 3, 2, 5}, false},
		{"decreasing from the greatest", []int{greatest, 2}, false},
		{"more than can be", []int{0, 1, 2, 3, 4, 5, 6}, false},
		{"many", make([]int, api.MaxWave+2), false},
	} {
		judgeMarked(t, c.name, c.valid, api.Marked{Samples: []int{1, 2, 3, 4, 5}, Marks: c.marks})
	}
	judgeMarked(t, "no samples", false, api.Marked{Marks: []int{0, 0}})
	judgeMarked(t, "no samples, but one said", false, api.Marked{Marks: []int{0, 1}})
	every := make([]int, api.MaxWave+1)
	for i := range every {
		every[i] = i
	}
	judgeMarked(t, "as many as may be", true, api.Marked{Samples: flat(api.MaxWave, 3), Marks: every})
}

// judgeRatio judges all calls with a ratio.
func judgeRatio(t *testing.T, num, den int, valid bool) {
	t.Helper()
	judge(t, "Stretch", orArg(valid), results(join.Stretch(markedE(), num, den)))
	judge(t, "Transpose", orArg(valid), results(join.Transpose(markedE(), num, den)))
	judge(t, "Sing", orArg(valid), results(join.Sing(markedE(), num, den)))
}

func TestCheckRatios(t *testing.T) {
	for n, valid := range bounds(1, 1000) {
		judgeRatio(t, n, 16, valid && n != 1000)
		judgeRatio(t, 16, n, valid && n != 1000)
		judgeRatio(t, n, 63, valid && n != 1)
		judgeRatio(t, 63, n, valid && n != 1)
		judgeRatio(t, n, n, valid)
	}
	for _, c := range []struct {
		greater, less int
		valid         bool
	}{
		{16, 1, true}, {17, 1, false}, {32, 2, true}, {33, 2, false}, {1000, 63, true}, {1000, 62, false}, {992, 62, true}, {993, 62, false},
		{greatest, greatest, false}, {least, least, false}, {greatest, 1, false}, {least, 1, false}, {1 << 60, 1000, false}, {0, 0, false},
	} {
		judgeRatio(t, c.greater, c.less, c.valid)
		judgeRatio(t, c.less, c.greater, c.valid)
	}
}

func TestCheckSmooth(t *testing.T) {
	for w, valid := range bounds(1, 1000) {
		judge(t, "width", orArg(valid), results(join.Smooth(markedE(), w)))
	}
	m := api.Marked{Samples: slices.Concat(flat(1000, 0), flat(1000, 2001)), Marks: []int{0, 1000, 2000}}
	got, e := join.Smooth(m, 1000)
	isOK(t, "the greatest width", results(got.Samples[999], got.Samples[1000], got.Samples[0], e), 1000, 1001, 1)
}

// TestCheckResults: results that have as many samples as may be, and one more.
func TestCheckResults(t *testing.T) {
	marked := func(head, tail int, periods ...int) api.Marked {
		m, end := api.Marked{Marks: []int{head}}, head
		for _, length := range periods {
			end += length
			m.Marks = append(m.Marks, end)
		}
		m.Samples = flat(end+tail, 5)
		return m
	}
	for _, c := range []struct {
		name                     string
		m                        api.Marked
		num, den                 int
		stretch, transpose, sing api.Errno
	}{
		{"50000 twice", marked(0, 0, 50000), 2, 1, api.OK, api.OK, api.OK},
		{"50001 twice", marked(0, 0, 50001), 2, 1, api.ErrLong, api.OK, api.OK},
		{"50000 by half", marked(0, 0, 50000), 1, 2, api.OK, api.OK, api.OK},
		{"50001 by half", marked(0, 0, 50001), 1, 2, api.OK, api.ErrLong, api.ErrLong},
		{"many by half", marked(0, 0, 30000, 30000, 30000), 1, 2, api.OK, api.ErrLong, api.ErrLong},
		{"a few less by half", marked(0, 0, 20000, 20000, 20000), 1, 2, api.OK, api.ErrLong, api.OK},
		{"a long head", marked(99998, 0, 1), 2, 1, api.OK, api.OK, api.OK},
		{"too long a head", marked(99999, 0, 1), 2, 1, api.ErrLong, api.OK, api.ErrLong},
		{"a long head by half", marked(99998, 0, 1), 1, 2, api.OK, api.OK, api.OK},
		{"too long a head by half", marked(99999, 0, 1), 1, 2, api.OK, api.ErrLong, api.ErrLong},
		{"a long tail", marked(1, 99997, 1), 2, 1, api.OK, api.OK, api.OK},
		{"too long a tail", marked(1, 99998, 1), 2, 1, api.ErrLong, api.OK, api.ErrLong},
		{"all of it 16 times", marked(0, 0, api.MaxWave), 16, 1, api.ErrLong, api.OK, api.OK},
		{"all of it by a sixteenth", marked(0, 0, api.MaxWave), 1, 16, api.OK, api.ErrLong, api.ErrLong},
		{"single samples 16 times", marked(0, 0, slices.Repeat([]int{1}, api.MaxWave)...), 16, 1, api.ErrLong, api.OK, api.ErrLong},
		{"single samples by a sixteenth", marked(0, 0, slices.Repeat([]int{1}, api.MaxWave)...), 1, 16, api.OK, api.ErrLong, api.OK},
	} {
		judge(t, c.name+": Stretch", c.stretch, results(join.Stretch(c.m, c.num, c.den)))
		judge(t, c.name+": Transpose", c.transpose, results(join.Transpose(c.m, c.num, c.den)))
		judge(t, c.name+": Sing", c.sing, results(join.Sing(c.m, c.num, c.den)))
	}
	wrong := marked(0, 0, 50001)
	wrong.Samples[7] = lowest - 1
	judge(t, "a wrong sample and too long a result", api.ErrArg, results(join.Stretch(wrong, 2, 1)))
	judge(t, "a wrong ratio and too long a result", api.ErrArg, results(join.Stretch(marked(0, 0, 50001), 17, 1)))
}

func TestCheckGains(t *testing.T) {
	wave := []int{1, -2}
	for n, valid := range bounds(0, 1000000) {
		judge(t, "num", orArg(valid), results(join.Gain(wave, n, 1)))
		judge(t, "num without samples", orArg(valid), results(join.Gain(nil, n, 1)))
	}
	for n, valid := range bounds(1, 1000000) {
		judge(t, "den", orArg(valid), results(join.Gain(wave, 1, n)))
		judge(t, "den", orArg(valid), results(join.Loudest(wave, n)))
		judge(t, "den without samples", orArg(valid), results(join.Loudest(nil, n)))
	}
	for n, valid := range bounds(0, 32768) {
		judge(t, "loudness", orArg(valid), results(join.Level(wave, n)))
	}
}
