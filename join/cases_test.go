package join_test

import (
	"slices"
	"testing"

	"declaim/api"
	"declaim/join"
)

// Cases that the chapter names.

func TestMeasures(t *testing.T) {
	for _, c := range []struct {
		name           string
		wave           []int
		step, loudness int
	}{
		{"one sample", []int{7}, 0, 7},
		{"silence", []int{0, 0, 0}, 0, 0},
		{"equal ones", []int{-9, -9}, 0, 9},
		{"up", []int{1, 2, 9}, 7, 5},
		{"down", []int{9, 2, 1}, 7, 5},
		{"the last step", []int{0, 1, -2}, 3, 1},
		{"the lowest one", []int{lowest}, 0, 32768},
		{"the highest ones", []int{highest, highest}, 0, 32767},
		{"the greatest step", []int{lowest, highest}, 65535, 32767},
		{"the greatest step down", []int{highest, lowest}, 65535, 32767},
		{"less than 1", []int{1, 0}, 1, 0},
		{"exactly 1", []int{0, 0, 2, 0}, 2, 1},
		{"just 3", []int{5, 1, 1}, 4, 3},
		{"just below 3", []int{5, 1, 0}, 4, 2},
	} {
		isOK(t, c.name, results(join.Step(c.wave)), c.step)
		isOK(t, c.name, results(join.Loudness(c.wave)), c.loudness)
	}
	isOK(t, "no samples", results(join.Step(nil)), 0)
}

func TestMismatches(t *testing.T) {
	a, b := []int{1, 2, 3}, []int{5, 3, 1, 0}
	for _, c := range []struct{ n, k, want int }{
		{1, 0, 4}, {1, 1, 0}, {1, 3, 9}, // of 3
		{2, 0, 9}, {2, 1, 5}, {2, 2, 10}, // of 2 3
		{3, 0, 21}, {3, 1, 14}, // of 1 2 3
	} {
		isOK(t, "Mismatch", results(join.Mismatch(a, b, c.n, c.k)), c.want)
	}
	for _, c := range []struct{ n, k int }{{0, 0}, {-1, 0}, {4, 0}, {3, 2}, {2, 3}, {1, 4}, {1, -1}, {greatest, 0}, {least, 0}, {1, greatest}, {1, least}, {greatest, greatest}, {least, least}, {least, greatest}} {
		isError(t, "Mismatch", results(join.Mismatch(a, b, c.n, c.k)), api.ErrArg)
		isError(t, "Join", results(join.Join(a, b, c.n, c.k)), api.ErrArg)
	}
	isError(t, "nothing before", results(join.Mismatch(nil, b, 1, 0)), api.ErrArg)
	isError(t, "nothing behind", results(join.Mismatch(a, nil, 1, 0)), api.ErrArg)
	isError(t, "nothing at all", results(join.Mismatch(nil, nil, 0, 0)), api.ErrArg)
	isError(t, "Join", results(join.Join(nil, nil, 0, 0)), api.ErrArg)
}

func TestLags(t *testing.T) {
	for _, c := range []struct {
		name       string
		a, b       []int
		n, r       int
		lag, least int
	}{
		{"one lag", []int{1, 2}, []int{5, 5}, 2, 9, 0, 25},
		{"the first of several", []int{1}, []int{3, 2, 2, 0}, 1, 9, 1, 1},
		{"the last one", []int{7, 1}, []int{3, 2, 0, 1}, 1, 3, 3, 0},
		{"just reached", []int{1}, []int{9, 2, 1}, 1, 2, 2, 0},
		{"not reached", []int{1}, []int{9, 2, 1}, 1, 1, 1, 1},
		{"no reach", []int{1}, []int{9, 2, 1}, 1, 0, 0, 64},
		{"a great reach", []int{1}, []int{9, 2, 1}, 1, greatest, 2, 0},
		{"as long as the first wave", []int{1, 2, 3}, []int{0, 1, 2, 3, 1, 2, 3}, 3, 9, 1, 0},
		{"of the last samples alone", []int{1, 2, 3}, []int{1, 2, 3}, 1, 9, 2, 0},
		{"too great at its end", []int{0, 0, 0}, []int{0, 0, 9, 1, 1, 1}, 3, 9, 3, 3},
	} {
		isOK(t, c.name, results(join.Lag(c.a, c.b, c.n, c.r)), c.lag, c.least)
	}
	for _, c := range []struct {
		name string
		a, b []int
		n    int
	}{
		{"too short before", []int{1}, []int{1, 2, 3}, 2},
		{"too short behind", []int{1, 2, 3}, []int{1}, 2},
		{"nothing before", nil, []int{1}, 1},
		{"nothing behind", []int{1}, nil, 1},
		{"nothing at all", nil, nil, 1},
		{"a great overlap", []int{1}, []int{1}, greatest},
	} {
		isError(t, c.name, results(join.Lag(c.a, c.b, c.n, 5)), api.ErrNone)
		isError(t, c.name, results(join.Chain(c.n, 5, c.a, c.b)), api.ErrNone)
	}
}

func TestFades(t *testing.T) {
	for _, c := range []struct{ x, y, want []int }{
		{[]int{0}, []int{1}, []int{1}}, // 0.5
		{[]int{0}, []int{-1}, []int{-1}},
		{[]int{-1}, []int{2}, []int{1}},
		{[]int{1}, []int{-2}, []int{-1}},
		{[]int{5}, []int{5}, []int{5}},
		{[]int{0, 0}, []int{1, 1}, []int{0, 1}}, // 0.3, 0.7
		{[]int{0, 0}, []int{-1, -1}, []int{0, -1}},
		{[]int{9, 0}, []int{0, 9}, []int{6, 6}},
		{[]int{0, 9}, []int{9, 0}, []int{3, 3}},
		{[]int{lowest, lowest, lowest}, []int{highest, highest, highest}, []int{-16384, -1, 16383}}, // -16384.25, -0.5, 16383.25
		{[]int{highest, lowest}, []int{highest, lowest}, []int{highest, lowest}},
	} {
		isOK(t, "Fade", results(join.Fade(c.x, c.y)), c.want)
	}
	isError(t, "no samples", results(join.Fade(nil, nil)), api.ErrArg)
	isError(t, "one more", results(join.Fade([]int{1}, []int{1, 2})), api.ErrArg)
	isError(t, "one less", results(join.Fade([]int{1}, nil)), api.ErrArg)
}

func TestJoins(t *testing.T) {
	a, b := []int{10, 20, 30}, []int{40, 60, 80, 100}
	for _, c := range []struct {
		n, k int
		want []int
	}{
		{1, 0, []int{10, 20, 35, 60, 80, 100}},
		{1, 1, []int{10, 20, 45, 80, 100}},
		{1, 3, []int{10, 20, 65}},
		{2, 0, []int{10, 27, 50, 80, 100}},
		{2, 2, []int{10, 40, 77}},
		{3, 0, []int{18, 40, 68, 100}},
		{3, 1, []int{23, 50, 83}},
	} {
		isOK(t, "Join", results(join.Join(a, b, c.n, c.k)), c.want)
	}
	isOK(t, "all of both", results(join.Join([]int{1, 2}, []int{4, 5}, 2, 0)), []int{2, 4})
}

func TestChains(t *testing.T) {
	isOK(t, "one wave", results(join.Chain(1, 0, []int{3, 4})), []int{3, 4}, []int{0})
	isOK(t, "one wave, shorter than the overlap", results(join.Chain(greatest, 0, []int{3, 4})), []int{3, 4}, []int{0})
	isOK(t, "one wave without samples", results(join.Chain(1, 0, nil)), []int{}, []int{0})
	isOK(t, "at their best lags", results(join.Chain(2, 9, []int{5, 1, 2}, []int{0, 1, 2, 3}, []int{7, 7, 2, 3, 4})), []int{5, 1, 2, 3, 4}, []int{0, 1, 2})
	isOK(t, "without reach", results(join.Chain(1, 0, []int{5, 1}, []int{3, 1}, []int{7, 1})), []int{5, 2, 4, 1}, []int{0, 1, 2})
	isOK(t, "with what was joined", results(join.Chain(2, 0, []int{0, 0}, []int{3, 3}, []int{3, 3})), []int{2, 3}, []int{0, 0, 0})
	isOK(t, "longer than a wave", results(join.Chain(2, 0, []int{0, 0, 0}, []int{3, 3, 3}, []int{3, 3, 3})), []int{0, 1, 2, 3, 3}, []int{0, 1, 2})
	long := flat(60000, 1)
	for _, c := range []struct {
		name  string
		waves [][]int
		want  api.Errno
	}{
		{"just as long", [][]int{long, flat(40001, 1)}, api.OK},
		{"too long", [][]int{long, flat(40002, 1)}, api.ErrLong},
		{"too long at the third wave", [][]int{long, flat(20000, 1), flat(20003, 1)}, api.ErrLong},
		{"none", [][]int{long, nil}, api.ErrNone},
		{"too long before none", [][]int{long, long, nil}, api.ErrLong},
		{"none before too long", [][]int{nil, long, long}, api.ErrNone},
		{"none between", [][]int{long, nil, long}, api.ErrNone},
	} {
		judge(t, c.name, c.want, results(join.Chain(1, 0, c.waves...)))
	}
	judge(t, "too long at the best lag", api.ErrLong, results(join.Chain(1, greatest, long, long)))
	behind := append(flat(59999, 0), 1)
	isOK(t, "short enough at the best lag", results(join.Chain(1, greatest, long, behind)), long, []int{0, 59999})
}

// wave is a wave without head and tail: periods of these lengths, each with its number and the place of each sample.
func wave(lengths ...int) api.Marked {
	m := api.Marked{Marks: []int{0}}
	for number, length := range lengths {
		for i := range length {
			m.Samples = append(m.Samples, 100*number+i)
		}
		m.Marks = append(m.Marks, len(m.Samples))
	}
	return m
}

func TestStretches(t *testing.T) {
	for _, c := range []struct {
		name     string
		old      int // periods
		num, den int
		want     []int // numbers of periods
	}{
		{"as it is", 3, 1, 1, []int{0, 1, 2}},
		{"as it is, too", 3, 7, 7, []int{0, 1, 2}},
		{"twice", 3, 2, 1, []int{0, 0, 1, 1, 2, 2}},
		{"16 times", 1, 16, 1, flat(16, 0)},
		{"half", 4, 1, 2, []int{0, 2}},
		{"half of one", 1, 1, 2, []int{0}},
		{"half of 3", 3, 1, 2, []int{0, 1}},
		{"half of 5", 5, 1, 2, []int{0, 1, 3}},
		{"a third of 4", 4, 1, 3, []int{0}},
		{"a third of 5", 5, 1, 3, []int{0, 2}},
		{"less than a half of one", 1, 1, 16, []int{0}},
		{"a quarter of one", 1, 1, 4, []int{0}},
		{"nearly a half", 3, 499, 1000, []int{0}},
		{"one and a half", 3, 3, 2, []int{0, 0, 1, 1, 2}}, // 4.5
		{"one and a half of 2", 2, 3, 2, []int{0, 0, 1}},
		{"two thirds", 6, 2, 3, []int{0, 1, 3, 4}},
		{"a little more", 7, 8, 7, []int{0, 0, 1, 2, 3, 4, 5, 6}},
	} {
		m := wave(slices.Repeat([]int{2}, c.old)...)
		m.Samples = append(m.Samples, 9999)
		got, e := join.Stretch(m, c.num, c.den)
		var numbers []int
		for _, period := range periodsOf(got) {
			numbers = append(numbers, period[0]/100)
		}
		isOK(t, c.name, results(numbers, e), c.want)
		isSame(t, c.name, got, modelStretch(m, c.num, c.den))
	}
	m := wave(1, 3)
	m.Marks = []int{1, 2, 4}
	isOK(t, "unlike periods", results(join.Stretch(m, 2, 1)), api.Marked{Samples: []int{0, 100, 100, 101, 102, 101, 102}, Marks: []int{1, 2, 3, 5, 7}})
	m.Marks = []int{2, 3}
	isOK(t, "one period between", results(join.Stretch(m, 3, 1)), api.Marked{Samples: []int{0, 100, 101, 101, 101, 102}, Marks: []int{2, 3, 4, 5}})
}

func TestTransposes(t *testing.T) {
	for _, c := range []struct {
		name             string
		length, num, den int
		want             []int
	}{
		{"as it is", 3, 1, 1, []int{0, 1, 2}},
		{"as it is, too", 3, 7, 7, []int{0, 1, 2}},
		{"half", 4, 2, 1, []int{0, 1}},
		{"half of one", 1, 2, 1, []int{0}},
		{"half of 3", 3, 2, 1, []int{0, 1}},
		{"a third of one", 1, 3, 1, []int{0}},
		{"a sixteenth of one", 1, 16, 1, []int{0}},
		{"nearly a half", 3, 1000, 499, []int{0}},
		{"twice", 2, 1, 2, []int{0, 1, 1, 1}},
		{"16 times", 1, 1, 16, flat(16, 0)},
		{"one and a half", 3, 2, 3, []int{0, 1, 2, 2, 2}},
		{"one and a third", 4, 3, 4, []int{0, 1, 2, 3, 3}},
		{"one and a quarter", 1, 4, 5, []int{0}},
	} {
		m := wave(c.length)
		m.Samples = append(m.Samples, 9999)
		isOK(t, c.name, results(join.Transpose(m, c.num, c.den)), api.Marked{Samples: append(c.want, 9999), Marks: []int{0, len(c.want)}})
	}
	m := wave(3, 1, 2)
	m.Marks = []int{1, 3, 4, 6}
	isOK(t, "unlike periods", results(join.Transpose(m, 1, 2)), api.Marked{Samples: []int{0, 1, 2, 2, 2, 100, 100, 200, 201, 201, 201}, Marks: []int{1, 5, 7, 11}})
}

func TestSongs(t *testing.T) {
	m := wave(3, 1, 2)
	isOK(t, "as it is", results(join.Sing(m, 3, 3)), m)
	isOK(t, "higher", results(join.Sing(m, 2, 1)), api.Marked{Samples: []int{0, 1, 0, 1, 100, 100, 200, 200}, Marks: []int{0, 2, 4, 5, 6, 7, 8}})
	isOK(t, "lower", results(join.Sing(m, 1, 2)), api.Marked{Samples: []int{0, 1, 2, 2, 2, 2, 100, 100}, Marks: []int{0, 6, 8}})
	isOK(t, "a head and a tail", results(join.Sing(api.Marked{Samples: []int{7, 1, 2, 8}, Marks: []int{1, 3}}, 1, 3)), api.Marked{Samples: []int{7, 1, 2, 2, 2, 2, 2, 8}, Marks: []int{1, 7}})
}

func TestSmoothing(t *testing.T) {
	rise := []int{0, 0, 0, 9, 9, 9}
	for _, c := range []struct {
		name    string
		samples []int
		marks   []int
		w       int
		want    []int
	}{
		{"a width of 1", rise, []int{0, 3, 6}, 1, []int{0, 0, 3, 6, 9, 9}},
		{"a width of 2", rise, []int{0, 3, 6}, 2, []int{0, 2, 4, 5, 7, 9}},
		{"just wide enough", rise, []int{0, 3, 6}, 3, []int{1, 3, 4, 5, 6, 8}},
		{"too wide", rise, []int{0, 3, 6}, 4, rise},
		{"too wide before", rise[1:], []int{0, 2, 5}, 3, rise[1:]},
		{"too wide behind", rise[:5], []int{0, 3, 5}, 3, rise[:5]},
		{"into the head and the tail", rise, []int{2, 3, 4}, 3, []int{1, 3, 4, 5, 6, 8}},
		{"the first and the last mark", rise, []int{2, 3}, 1, rise},
		{"marks at both ends", rise, []int{0, 6}, 1, rise},
		{"down", []int{9, 9, 9, 0, 0, 0}, []int{0, 3, 6}, 2, []int{9, 7, 5, 4, 2, 0}},
		{"no step", []int{5, 1, 1, 5}, []int{0, 2, 4}, 2, []int{5, 1, 1, 5}},
		{"one after the other", []int{0, 0, 9, 9, 0, 0}, []int{0, 2, 4, 6}, 1, []int{0, 3, 6, 6, 3, 0}},
		{"with what was changed", []int{0, 9, 9, 0}, []int{0, 1, 2, 3, 4}, 1, []int{3, 7, 5, 3}}, // 3 6 9 0, then 3 7 8 0
		{"clipped above", []int{highest, 0, highest, 0}, []int{0, 2, 4}, 2, []int{highest, 13107, 19660, -6553}},
		{"clipped below", []int{0, -1, lowest, 0, lowest}, []int{0, 2, 3, 5}, 2, []int{-6553, -7865, -9175, -3933, lowest}},
		{"rounded", []int{0, 0, 1, 1}, []int{0, 2, 4}, 2, []int{0, 0, 1, 1}}, // 0.4
	} {
		m := api.Marked{Samples: c.samples, Marks: c.marks}
		isOK(t, c.name, results(join.Smooth(m, c.w)), api.Marked{Samples: c.want, Marks: c.marks})
		isSame(t, c.name, modelSmooth(m, c.w).Samples, c.want)
	}
}

func TestGains(t *testing.T) {
	for _, c := range []struct {
		sample, num, den int
		want, clips      int
	}{
		{7, 0, 5, 0, 0},
		{7, 1, 1, 7, 0},
		{7, 9, 9, 7, 0},
		{5, 1, 2, 3, 0},
		{-5, 1, 2, -3, 0},
		{4, 1, 3, 1, 0},
		{5, 1, 3, 2, 0},
		{-5, 1, 3, -2, 0},
		{16384, 2, 1, 32767, 1},
		{-16384, 2, 1, -32768, 0},
		{-16385, 2, 1, -32768, 1},
		{21845, 3, 2, 32767, 1}, // 32767.5
		{1, 65534, 2, 32767, 0},
		{1, 65535, 2, 32767, 1},
		{-1, 65536, 2, -32768, 0},
		{-1, 65537, 2, -32768, 1}, // -32768.5
		{-3, 98305, 9, -32768, 0}, // -32768.3
		{3, 98302, 9, 32767, 0},   // 32767.3
		{lowest, 1000000, 1, -32768, 1},
		{highest, 1000000, 1, 32767, 1},
		{lowest, 1, 1000000, 0, 0},
		{highest, 1000000, 1000000, 32767, 0},
		{highest, 15, 1000000, 0, 0}, // 0.49
		{highest, 16, 1000000, 1, 0}, // 0.52
	} {
		isOK(t, "Gain", results(join.Gain([]int{c.sample}, c.num, c.den)), []int{c.want}, c.clips)
	}
	isOK(t, "no samples", results(join.Gain(nil, 5, 1)), []int{}, 0)
	isOK(t, "several", results(join.Gain([]int{9, 20000, -20000, -3}, 2, 1)), []int{18, 32767, -32768, -6}, 2)
}

func TestGreatestGains(t *testing.T) {
	for _, c := range []struct {
		wave      []int
		den, want int
	}{
		{nil, 1, 1000000},
		{[]int{0, 0}, 1, 1000000},
		{[]int{1}, 1, 32767},
		{[]int{-1}, 1, 32768},
		{[]int{-1, 1}, 1, 32767},
		{[]int{1}, 2, 65534},
		{[]int{-1}, 2, 65536},
		{[]int{-2, 1}, 2, 32768},
		{[]int{1}, 30, 983024}, // 32767.5 times 30 would be clipped
		{[]int{1}, 31, 1000000},
		{[]int{highest}, 1, 1},
		{[]int{lowest}, 1, 1},
		{[]int{5, lowest, highest, 7}, 1000, 1000},
		{[]int{highest}, 500000, 500007},
		{[]int{highest}, 1000000, 1000000},
		{[]int{16384}, 1, 1},
		{[]int{-16384}, 1, 2},
	} {
		isOK(t, "Loudest", results(join.Loudest(c.wave, c.den)), c.want)
	}
}

func TestLevels(t *testing.T) {
	for _, c := range []struct {
		name     string
		wave     []int
		loudness int
		want     []int
	}{
		{"silence", []int{0, 0}, 0, []int{0, 0}},
		{"silence for a great loudness", []int{0, 0}, 32768, []int{0, 0}},
		{"to silence", []int{3, -1}, 0, []int{1, 0}}, // 0.498: the loudness is 0 although a sample is not
		{"to silence from one sample", []int{-7}, 0, []int{0}},
		{"as loud as can be", []int{30000}, 32768, []int{32760}},
		{"the loudest", []int{lowest}, 32768, []int{lowest}},
		{"not clipped", []int{1000, -10}, 32768, []int{32767, -328}},
		{"louder", []int{3, -4}, 7, []int{6, -9}},
		{"softer", []int{300, -400}, 7, []int{6, -8}},
		{"1000 times", []int{1}, 32768, []int{1000}},
		{"exactly", []int{10, -10}, 10, []int{10, -10}},
	} {
		isOK(t, c.name, results(join.Level(c.wave, c.loudness)), c.want)
		isSame(t, c.name, modelLevel(c.wave, c.loudness), c.want)
	}
}
