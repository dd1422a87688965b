package house_test

import (
	"slices"
	"testing"

	"declaim/api"
	"declaim/house"
)

// Cases that are computed by hand.

func TestChips(t *testing.T) {
	isOK(t, "none", results(house.Chips(7, 0)), []int{})
	// 6364136223846793005 * 7 + 1442695040888963407 is 9098160460397411210 modulo 2^64, which is less than 2^63.
	isOK(t, "one", results(house.Chips(7, 1)), []int{-1})
	long, e := house.Chips(0, 10000)
	isOK(t, "many", results(len(long), long[:8], e), 10000, []int{-1, -1, 1, -1, -1, 1, -1, -1})
}

func TestWords(t *testing.T) {
	m := api.Stamp{Key: 5, Period: 9, Bits: 3, Margin: 1}
	for message, bits := range map[int][]bool{0: {false, false, false}, 1: {false, false, true}, 4: {true, false, false}, 6: {true, true, false}, 7: {true, true, true}} {
		word, e := house.Word(m, message)
		chips, _ := house.Chips(6+message, 64)
		var tag []int
		for _, bit := range word[3:] {
			tag = append(tag, modelSign(bit))
		}
		isOK(t, "Word", results(len(word), word[:3], tag, e), 19, bits, chips[48:])
	}
	// A word depends on the key, the bits and the message alone.
	one, _ := house.Word(m, 2)
	isOK(t, "the same", results(house.Word(api.Stamp{Key: 5, Period: 4, Bits: 3, Margin: 77}, 2)), one)
	long, e := house.Word(api.Stamp{Key: api.MaxKey, Period: 4, Bits: 16, Margin: 1}, 1<<16-1)
	chips, _ := house.Chips(1<<62+1<<16-1, 64)
	isOK(t, "the last word", results(len(long), long[:16], modelSign(long[16]), modelSign(long[31]), e), 32, slices.Repeat([]bool{true}, 16), chips[48], chips[63])
}

// ones is a list of samples for stampOnes: so many times each of four numbers in a row.
func ones(periods int, samples ...int) []int { return slices.Repeat(samples, periods) }

func TestSigns(t *testing.T) {
	m := stampOnes() // a period is marked if the sum of its 4 samples is at least 20
	for _, c := range []struct {
		name  string
		a     []int
		want  []int
		depth int
	}{
		{"nothing", nil, nil, 0},
		{"no frame", flat(71, 0), flat(71, 0), 0},
		{"a frame", flat(72, 0), flat(72, 5), 5},
		{"what is left", flat(80, 1), slices.Concat(flat(72, 5), flat(8, 1)), 4},
		{"nearly two frames", flat(143, 0), slices.Concat(flat(72, 5), flat(71, 0)), 5},
		{"two frames", slices.Concat(flat(72, 2), flat(72, -2)), flat(144, 5), 7},
		{"enough", ones(18, 5, 5, 5, 5), ones(18, 5, 5, 5, 5), 0},
		{"more than enough", ones(18, 0, 0, 0, 90), ones(18, 0, 0, 0, 90), 0},
		{"nearly enough", ones(18, 5, 5, 5, 4), ones(18, 6, 6, 6, 5), 1},
		{"rounded up", ones(18, -1, 3, 0, 1), ones(18, 4, 8, 5, 6), 5},
		{"exact", ones(18, 0, 3, 0, 1), ones(18, 4, 7, 4, 5), 4},
		{"the last period alone", slices.Concat(flat(68, 5), []int{5, 5, 5, 1}), slices.Concat(flat(68, 5), []int{6, 6, 6, 2}), 1},
		{"the greatest depth", slices.Concat(flat(4, 4), flat(4, -9), flat(64, 3)), flat(72, 5), 14},
	} {
		isOK(t, c.name, results(house.Sign(c.a, m, 1)), c.want, c.depth)
	}
}

// TestSignedFrames: the chips of a frame without samples are those of the definition.
func TestSignedFrames(t *testing.T) {
	m := api.Stamp{Key: 99, Period: 6, Bits: 4, Margin: 13} // 13 needs 3 for each of 6 samples
	chips, _ := house.Chips(99, 12)
	word, _ := house.Word(m, 9)
	var want []int
	for _, chip := range chips[:6] {
		want = append(want, 3*chip)
	}
	for _, bit := range word {
		for _, chip := range chips[6:] {
			want = append(want, 3*chip*modelSign(bit))
		}
	}
	isOK(t, "Sign", results(house.Sign(flat(126, 0), m, 9)), want, 3)
	isOK(t, "Sign", results(house.Sign(flat(252, 0), m, 9)), slices.Concat(want, want), 3)
}

func TestLoudSigns(t *testing.T) {
	m := stampOnes()
	isOK(t, "the highest", results(house.Sign(ones(18, highest-1, 3-highest, 7, 7), m, 1)), ones(18, highest, 4-highest, 8, 8), 1)
	isError(t, "too high", results(house.Sign(ones(18, highest, 2-highest, 7, 7), m, 1)), api.ErrNone)
	isError(t, "too high at one place", results(house.Sign(slices.Concat(flat(68, 9), []int{highest, 0, 0, -highest}), m, 1)), api.ErrNone)
	isOK(t, "loud behind the frames", results(house.Sign(slices.Concat(flat(72, 0), []int{highest, lowest}), m, 1)), slices.Concat(flat(72, 5), []int{highest, lowest}), 5)

	// The word of the message 0 begins with 0, and so a period gets lower.
	a := flat(72, 0)
	copy(a[4:8], []int{lowest + 5, -5 - lowest, 0, 0})
	low, depth, e := house.Sign(a, m, 0)
	isOK(t, "the lowest", results(low[4:8], depth, e), []int{lowest, -10 - lowest, -5, -5}, 5)
	a[4]--
	isError(t, "too low", results(house.Sign(a, m, 0)), api.ErrNone)
	a[5] -= 19
	enough, depth, e := house.Sign(a, m, 0)
	isOK(t, "low enough already", results(enough[4:8], depth, e), a[4:8], 5)
	m.Margin = 4 * (highest - 1)
	isOK(t, "the greatest margin", results(house.Sign(flat(72, -1), m, 1)), flat(72, highest-1), highest)
	m.Margin = 4*highest + 1
	isError(t, "a greater one", results(house.Sign(flat(72, 0), m, 1)), api.ErrNone)
	m.Margin = 1000000000
	isError(t, "no sample could be so loud", results(house.Sign(flat(72, 0), m, 1)), api.ErrNone)
	isOK(t, "but without a frame", results(house.Sign(flat(71, highest), m, 1)), flat(71, highest), 0)
}

func find(offset, message int) api.Find { return api.Find{Offset: offset, Message: message} }

func TestFinds(t *testing.T) {
	m := stampOnes()
	frame := flat(72, 5)
	changedAt := func(i, sample int) []int { return slices.Concat(frame[:i], []int{sample}, frame[i+1:]) }
	for _, c := range []struct {
		name      string
		a         []int
		threshold int
		want      []api.Find
	}{
		{"nothing", nil, 1, nil},
		{"less than a period", flat(3, 5), 1, nil},
		{"a period", flat(4, 5), 1, nil},
		{"nearly a frame", flat(71, 5), 1, nil},
		{"a frame", frame, 1, []api.Find{find(0, 1)}},
		{"at the threshold", frame, 20, []api.Find{find(0, 1)}},
		{"below the threshold", frame, 21, nil},
		{"the first period too low", changedAt(3, 4), 20, nil},
		{"the second period too low", changedAt(4, 4), 20, nil},
		{"the last period too low", changedAt(71, 4), 20, nil},
		{"the last period low", changedAt(71, 4), 19, []api.Find{find(0, 1)}},
		{"the first period turned", slices.Concat(flat(4, -5), flat(68, 5)), 20, nil},
		{"the message turned", slices.Concat(flat(4, 5), flat(4, -5), flat(64, 5)), 20, nil},
		{"the last bit turned", slices.Concat(flat(68, 5), flat(4, -5)), 20, nil},
		{"all bits turned", slices.Concat(flat(4, 5), flat(68, -5)), 20, nil},
		{"at several offsets", flat(74, 5), 20, []api.Find{find(0, 1), find(1, 1), find(2, 1)}},
		{"behind others", slices.Concat(flat(5, -9), frame, flat(3, -9)), 20, []api.Find{find(5, 1)}},
		{"at the end", slices.Concat(flat(5, -9), frame), 20, []api.Find{find(5, 1)}},
		{"beginning within a period", slices.Concat(flat(9, -9), frame, flat(9, -9)), 8, []api.Find{find(9, 1)}},
	} {
		isOK(t, c.name, results(house.Find(c.a, m, c.threshold)), c.want)
	}
	zero, _, _ := house.Sign(flat(72, 0), m, 0)
	isOK(t, "the message 0", results(house.Find(zero, m, 20)), []api.Find{find(0, 0)})
	isOK(t, "the message 0 below the threshold", results(house.Find(zero, m, 21)), []api.Find{})
	both := slices.Concat(zero, []int{-9}, frame)
	isOK(t, "both messages", results(house.Find(both, m, 20)), []api.Find{find(0, 0), find(73, 1)})
	m.Margin = 1
	isOK(t, "the margin does not matter", results(house.Find(both, m, 20)), []api.Find{find(0, 0), find(73, 1)})
}

func TestManyFinds(t *testing.T) {
	finds, e := house.Find(flat(10000+71, 1), stampOnes(), 4)
	isOK(t, "as many as may be", results(len(finds), finds[9999], e), 10000, find(9999, 1))
	isError(t, "one more", results(house.Find(flat(10001+71, 1), stampOnes(), 4)), api.ErrLong)
	isError(t, "many more", results(house.Find(flat(api.MaxWave, 1), stampOnes(), 4)), api.ErrLong)
	isOK(t, "none of them", results(house.Find(flat(api.MaxWave, 1), stampOnes(), 5)), []api.Find{})
}

func TestSurvivals(t *testing.T) {
	stamp := func(period, margin int) api.Stamp {
		return api.Stamp{Period: period, Bits: 1, Margin: margin}
	}
	for _, c := range []struct {
		m                          api.Stamp
		threshold, num, den, noise int
		want                       bool
	}{
		{stamp(4, 12), 10, 1, 1, 0, true},  // 24 and 24
		{stamp(4, 11), 10, 1, 1, 0, false}, // 22 and 24
		{stamp(4, 12), 11, 1, 1, 0, false}, // 24 and 26
		{stamp(5, 12), 10, 1, 1, 0, false}, // 24 and 25
		{stamp(5, 13), 10, 1, 1, 0, true},  // 26 and 25
		{stamp(4, 16), 10, 1, 1, 1, true},  // 32 and 32
		{stamp(4, 15), 10, 1, 1, 1, false}, // 30 and 32
		{stamp(4, 20), 10, 2, 3, 0, true},  // 80 and 72
		{stamp(4, 17), 10, 2, 3, 0, false}, // 68 and 72
		{stamp(4, 18), 10, 2, 3, 0, true},  // 72 and 72
		{stamp(4, 6), 10, 2, 1, 0, true},   // 24 and 24
		{stamp(4, 1000000000), 1000000000, 1000000, 1000000, 0, false},
		{stamp(4, 1000000000), 999999998, 1000000, 1000000, 0, true},
		{stamp(256, 1000000000), 1000000000, 1000000, 1, 32768, true},
		{stamp(256, 1000000000), 1, 1, 1000000, 32768, false},
	} {
		isOK(t, "Survives", results(house.Survives(c.m, c.threshold, c.num, c.den, c.noise)), c.want)
	}
}

func TestCounts(t *testing.T) {
	for _, c := range []struct {
		x         []int
		threshold int
		want      api.Chance
	}{
		{nil, 1, chance(0, 1)},
		{nil, -1, chance(1, 1)},
		{[]int{0, 0}, 0, chance(4, 4)},
		{[]int{0, 0}, 1, chance(0, 4)},
		{[]int{3}, 3, chance(1, 2)},
		{[]int{-3}, 3, chance(1, 2)},
		{[]int{3}, 4, chance(0, 2)},
		{[]int{1, 1, 1, 1}, 0, chance(11, 16)},
		{[]int{1, 1, 1, 1}, 1, chance(5, 16)},
		{[]int{1, 2, 4, 8}, -15, chance(16, 16)},
		{[]int{1, 2, 4, 8}, -14, chance(15, 16)},
		{[]int{1, 2, 4, 8}, 14, chance(1, 16)},
		{flat(40, 0), 0, chance(1<<40, 1<<40)},
		{flat(40, 1), 0, chance(1<<39+137846528820/2, 1<<40)}, // 40 over 20
		{flat(40, 1000000000), 40000000000, chance(1, 1<<40)},
		{flat(40, -1000000000), -39999999999, chance(1<<40-1, 1<<40)},
		{flat(40, 1000000000), 40000000001, chance(0, 1<<40)},
	} {
		isOK(t, "Count", results(house.Count(c.x, c.threshold)), c.want)
	}
}

// TestPowers: with powers of 2, each odd number from - (2^n - 1) to 2^n - 1 is the sum of one way.
func TestPowers(t *testing.T) {
	var x []int
	for i := range 30 {
		x = append(x, 1<<i)
	}
	isOK(t, "Count", results(house.Count(x[:29], 1<<29-1-2*1000)), chance(1001, 1<<29))
	isOK(t, "Count", results(house.Count(x, 0)), chance(1<<29, 1<<30))
	isOK(t, "Count", results(house.Count(x, 777)), chance(1<<29-388, 1<<30))
	isOK(t, "Flips", results(house.Flips(x)), chance(2, 1<<30))
	x[5] = -32
	isOK(t, "Flips", results(house.Flips(x)), chance(66, 1<<30))
}

func TestFlips(t *testing.T) {
	for _, c := range []struct {
		x    []int
		want api.Chance
	}{
		{nil, chance(1, 1)},
		{[]int{0}, chance(2, 2)},
		{[]int{5}, chance(2, 2)},
		{[]int{-5}, chance(2, 2)},
		{[]int{-1, -2, -3}, chance(2, 8)},
		{[]int{1, 2, -3}, chance(8, 8)},
		{[]int{3, 2, -1}, chance(4, 8)}, // 4 and 6
		{[]int{-3, -2, 1}, chance(4, 8)},
		{flat(40, 1), chance(2, 1<<40)},
	} {
		isOK(t, "Flips", results(house.Flips(c.x)), c.want)
	}
}

func TestSignTests(t *testing.T) {
	for _, c := range []struct {
		wins, n int
		want    api.Chance
	}{
		{0, 0, chance(1, 1)},
		{0, 1, chance(2, 2)},
		{1, 1, chance(2, 2)},
		{0, 5, chance(2, 32)},
		{4, 5, chance(12, 32)}, // 0, 1, 4 and 5
		{1, 5, chance(12, 32)},
		{3, 5, chance(32, 32)},
		{3, 4, chance(10, 16)}, // 0, 1, 3 and 4
		{40, 40, chance(2, 1<<40)},
		{1, 40, chance(82, 1<<40)},
		{20, 40, chance(1<<40, 1<<40)},
	} {
		isOK(t, "Signs", results(house.Signs(c.wins, c.n)), c.want)
	}
}

func TestHolms(t *testing.T) {
	for _, c := range []struct {
		name     string
		l        []api.Chance
		num, den int
		want     []bool
	}{
		{"nothing", nil, 1, 20, nil},
		{"at the level", []api.Chance{chance(1, 20)}, 1, 20, []bool{true}},
		{"above the level", []api.Chance{chance(2, 39)}, 1, 20, []bool{false}},
		{"0", []api.Chance{chance(0, 1)}, 1, 1000, []bool{true}},
		{"1", []api.Chance{chance(1, 1)}, 999, 1000, []bool{false}},
		{"equal ones, the first one first", []api.Chance{chance(1, 30), chance(2, 60), chance(3, 90)}, 1, 15, []bool{false, false, false}},
		{"equal ones, not all accepted", []api.Chance{chance(1, 2), chance(1, 80), chance(2, 160)}, 1, 20, []bool{false, true, true}},
		{"the first one alone", []api.Chance{chance(1, 10), chance(1, 90), chance(1, 10)}, 1, 20, []bool{false, true, false}},
		{"none behind one that is not", []api.Chance{chance(1, 30), chance(1, 40), chance(1, 39)}, 1, 20, []bool{false, false, false}},
		{"the greater level", []api.Chance{chance(3, 10), chance(1, 10)}, 3, 10, []bool{true, true}},
		{"products of 2^78 and 2^79", []api.Chance{chance(1<<39, 1<<40), chance(1<<38, 1<<40)}, 1, 2, []bool{true, true}},
		{"nearly equal", []api.Chance{chance(1<<39, 1<<40), chance(1<<39-1, 1<<40-1)}, 999, 1000, []bool{false, false}},
		{"great ones", []api.Chance{chance(1<<40, 1<<40), chance(1<<40-1, 1<<40)}, 1, 2, []bool{false, false}},
		{"as many as may be", append(slices.Repeat([]api.Chance{chance(1, 1<<40)}, 49), chance(1<<39, 1<<40)), 1, 2, slices.Repeat([]bool{true}, 50)},
	} {
		isOK(t, c.name, results(house.Holm(c.l, c.num, c.den)), c.want)
	}
}

func TestSquares(t *testing.T) {
	isOK(t, "1", results(house.Square(1)), [][]int{{0}, {0}})
	isOK(t, "2", results(house.Square(2)), [][]int{{0, 1}, {1, 0}})
	five, e := house.Square(5)
	isOK(t, "5", results(len(five), five[0], five[1], five[5], five[6], five[9], e), 10, []int{0, 1, 4, 2, 3}, []int{1, 2, 0, 3, 4}, []int{3, 2, 4, 1, 0}, []int{4, 3, 0, 2, 1}, []int{2, 1, 3, 0, 4})
	six, e := house.Square(6)
	isOK(t, "6", results(len(six), six[0], six[5], e), 6, []int{0, 1, 5, 2, 4, 3}, []int{5, 0, 4, 1, 3, 2})
	most, e := house.Square(60)
	isOK(t, "60", results(len(most), most[0][:5], most[0][59], e), 60, []int{0, 1, 59, 2, 58}, 30)
}

func TestBalances(t *testing.T) {
	square := func(n int) [][]int {
		rows, _ := house.Square(n)
		return rows
	}
	for _, c := range []struct {
		name string
		plan [][]int
		n    int
		want bool
	}{
		{"no rows", nil, 1, false},
		{"one voice", [][]int{{0}}, 1, true},
		{"one voice in three rows", [][]int{{0}, {0}, {0}}, 1, true},
		{"a voice that is none", [][]int{{1}}, 1, false},
		{"a voice below 0", [][]int{{-1}}, 1, false},
		{"an empty row", [][]int{{}}, 1, false},
		{"a row that is too long", [][]int{{0, 0}}, 1, false},
		{"an empty row among others", [][]int{{0}, {}}, 1, false},
		{"two voices", [][]int{{0, 1}, {1, 0}}, 2, true},
		{"two voices, one row", [][]int{{0, 1}}, 2, false},
		{"two voices, the same row twice", [][]int{{0, 1}, {0, 1}}, 2, false},
		{"two voices, three rows", [][]int{{0, 1}, {1, 0}, {0, 1}}, 2, false},
		{"two voices, each of them alone", [][]int{{0, 0}, {1, 1}}, 2, false},
		{"the other number of voices", [][]int{{0, 1}, {1, 0}}, 3, false},
		{"too few voices", [][]int{{0, 1}, {1, 0}}, 1, false},
		{"places, but no neighbors", [][]int{{0, 1, 2}, {1, 2, 0}, {2, 0, 1}}, 3, false},
		{"all orders", [][]int{{0, 1, 2}, {0, 2, 1}, {1, 0, 2}, {1, 2, 0}, {2, 0, 1}, {2, 1, 0}}, 3, true},
		{"neighbors, but no places", [][]int{{0, 1, 2, 3}, {0, 1, 2, 3}, {1, 0, 3, 2}, {1, 3, 2, 0}, {2, 0, 3, 1}, {2, 1, 3, 0}, {3, 0, 2, 1}, {3, 1, 0, 2}}, 4, false},
		{"places and neighbors, but not all voices in each row", [][]int{{0, 1, 0}, {1, 2, 1}, {2, 0, 2}}, 3, false},
		{"a square twice", slices.Concat(square(4), square(4)), 4, true},
		{"a square and a row", append(square(4), square(4)[0]), 4, false},
		{"a square without a row", square(4)[1:], 4, false},
		{"half of an odd square", square(5)[:5], 5, false},
		{"as many rows as may be", slices.Repeat(square(4), 250), 4, true},
		{"too many rows", slices.Repeat(square(4), 251), 4, false},
		{"too many rows of one voice", slices.Repeat([][]int{{0}}, 1001), 1, false},
		{"as many rows of one voice", slices.Repeat([][]int{{0}}, 1000), 1, true},
		{"nobody", [][]int{{}}, 0, false},
		{"below 0", [][]int{{}}, -1, false},
		{"more voices than may be", [][]int{{0}}, 61, false},
		{"anything", [][]int{{greatest, least}, {least, greatest}}, 2, false},
		{"more voices than places", [][]int{{0, 61}, {61, 0}}, 2, false},
		{"more voices than may be, all of them", cyclic(61), 61, false},
		{"far more", [][]int{{0}}, greatest, false},
		{"far less", [][]int{{0}}, least, false},
	} {
		isSame(t, c.name, house.Balanced(c.plan, c.n), c.want)
	}
}

// cyclic is the definition of a square, for any number of voices.
func cyclic(n int) [][]int {
	z := []int{0}
	for low, high := 1, n-1; low <= high; low, high = low+1, high-1 {
		z = append(z, low)
		if low < high {
			z = append(z, high)
		}
	}
	var rows [][]int
	for i := range n {
		var row []int
		for _, voice := range z {
			row = append(row, (voice+i)%n)
		}
		rows = append(rows, row)
	}
	for i := range n * (n % 2) {
		backwards := slices.Clone(rows[i])
		slices.Reverse(backwards)
		rows = append(rows, backwards)
	}
	return rows
}

func TestAllSquares(t *testing.T) {
	for n := 1; n <= api.MaxVoices; n++ {
		isOK(t, "Square", results(house.Square(n)), cyclic(n))
	}
}

// TestBalancedPairs: places and most neighbors are right, but two pairs are not.
func TestBalancedPairs(t *testing.T) {
	plan := [][]int{{0, 1, 2, 3}, {1, 3, 0, 2}, {2, 0, 3, 1}, {3, 2, 1, 0}}
	isSame(t, "balanced", house.Balanced(plan, 4), true)
	plan = [][]int{{0, 1, 2, 3}, {1, 0, 3, 2}, {2, 3, 0, 1}, {3, 2, 1, 0}}
	isSame(t, "places alone", house.Balanced(plan, 4), false)
}

func TestChanges(t *testing.T) {
	for _, c := range []struct {
		name     string
		a, b     []int
		distance int
		want     []api.Change
	}{
		{"nothing", nil, nil, 1, nil},
		{"equal", []int{1, 2}, []int{1, 2}, 1, nil},
		{"all", []int{1, 2}, []int{3, -2}, 1, []api.Change{change(0, 2, 4)}},
		{"nothing and something", nil, []int{5, 6}, 1, []api.Change{change(0, 2, 0)}},
		{"something and nothing", []int{0}, nil, 1, []api.Change{change(0, 1, 0)}},
		{"longer", []int{1, 2, 0}, []int{1, 2}, 1, []api.Change{change(2, 3, 0)}},
		{"longer, and near", []int{1, 2, 9}, []int{1, 4, 9, 9, 9}, 2, []api.Change{change(1, 5, 2)}},
		{"longer, and far", []int{1, 2, 9}, []int{1, 4, 9, 9, 9}, 1, []api.Change{change(1, 2, 2), change(3, 5, 0)}},
		{"at the distance", []int{1, 0, 0, 1}, []int{2, 0, 0, 3}, 3, []api.Change{change(0, 4, 2)}},
		{"behind the distance", []int{1, 0, 0, 1}, []int{2, 0, 0, 3}, 2, []api.Change{change(0, 1, 1), change(3, 4, 2)}},
		{"from place to place", []int{1, 0, 1, 0, 1}, []int{2, 0, 2, 0, 5}, 2, []api.Change{change(0, 5, 4)}},
		{"the greatest one first", []int{9, 1}, []int{0, 0}, 1, []api.Change{change(0, 2, 9)}},
		{"the greatest difference", []int{lowest}, []int{highest}, 1, []api.Change{change(0, 1, 65535)}},
		{"the greatest distance", slices.Concat([]int{1}, flat(api.MaxWave-2, 0), []int{1}), flat(api.MaxWave, 0), api.MaxWave, []api.Change{change(0, api.MaxWave, 1)}},
	} {
		isOK(t, c.name, results(house.Changes(c.a, c.b, c.distance)), c.want)
		isOK(t, c.name, results(house.Changes(c.b, c.a, c.distance)), c.want)
	}
}

func TestBlames(t *testing.T) {
	unreadable := grammarE()
	unreadable.Conventions = unreadable.Conventions[1:3]
	unreadable.Contexts = nil
	for _, c := range []struct {
		name     string
		versions []api.Grammar
		written  string
		want     []int
	}{
		{"no version", nil, "7 kg", nil},
		{"one version", []api.Grammar{grammarE()}, "7 kg", nil},
		{"equal ones", []api.Grammar{grammarE(), grammarE(), grammarE()}, "7 kg", nil},
		{"other words", []api.Grammar{grammarE(), withCost(3, 9)}, "7 kg", []int{1}},
		{"there and back", []api.Grammar{grammarE(), withCost(3, 9), withCost(3, 8), grammarE()}, "7 kg", []int{1, 3}},
		{"other steps with the same words", []api.Grammar{grammarE(), withCost(0, 3)}, "7", nil},
		{"only the second one has a reading", []api.Grammar{unreadable, grammarE()}, "7", []int{1}},
		{"only the first one has a reading", []api.Grammar{grammarE(), unreadable}, "7", []int{1}},
		{"none has a reading", []api.Grammar{unreadable, unreadable}, "7", nil},
		{"a reading without words, and none", []api.Grammar{unreadable, with(literal("?", 1)), unreadable, unreadable}, "?", []int{1, 2}},
		{"the empty text", []api.Grammar{grammarE(), unreadable}, "", nil},
		{"words in the middle", []api.Grammar{grammarE(), with(literal("kg", 0, "kilos")), with(literal("kg", 0, "kilos")), with(literal("kg", 0, "k"))}, "7 kg", []int{3}},
	} {
		isOK(t, c.name, results(house.Blame(c.versions, c.written)), c.want)
	}
}

func TestSuspects(t *testing.T) {
	fewer := grammarE()
	fewer.Conventions = fewer.Conventions[:3]
	for _, c := range []struct {
		name    string
		g, h    api.Grammar
		written string
		want    []int
	}{
		{"equal ones", grammarE(), grammarE(), "7 kg", nil},
		{"a cost that both use", withCost(2, 1), grammarE(), "7 kg", []int{2}},
		{"a cost that one uses", grammarE(), withCost(3, 9), "kg", []int{3}},
		{"a cost that none uses", grammarE(), withCost(4, 9), "7 kg", nil},
		{"a missing one", grammarE(), fewer, "7 kg", []int{3}},
		{"a missing one that is not used", grammarE(), fewer, "a 7", nil},
		{"an added one", grammarE(), with(literal("7 ", 0), literal("kg", 0)), "7 kg", []int{5, 6}},
		{"no reading", grammarE(), with(literal("?", 0)), "7?", []int{5}},
		{"no readings", grammarE(), withCost(0, 7), "7?", nil},
		{"the empty text", grammarE(), withCost(0, 7), "", nil},
	} {
		isOK(t, c.name, results(house.Suspects(c.g, c.h, c.written)), c.want)
		isOK(t, c.name, results(house.Suspects(c.h, c.g, c.written)), c.want)
	}
}

// TestSuspectFields: each field of a convention alone.
func TestSuspectFields(t *testing.T) {
	row := api.Say{Kind: api.SayRow}
	base := func() api.Grammar {
		g := grammarE()
		g.System.Genders, g.System.Cases, g.System.Sets = 2, 2, append(g.System.Sets, g.System.Sets[0])
		g.System.Terms[1].Forms = []api.Form{{Gender: -1, Case: -1, Class: -1, Text: "one"}}
		g.Tables = append(g.Tables, g.Tables[0])
		g.Conventions = []api.Convention{{
			Pattern: pattern(some(sortDigits, 1, 2), exactly(" "), some(sortLetters, 1, 3), some(sortDigits, 1, 1)),
			Says:    says(api.Say{Kind: api.SayNumber}, sayWords("a", "b"), api.Say{Kind: api.SayRow, Group: 1}, api.Say{Kind: api.SayCounted}),
			Cost:    1, Before: []int{-1}, After: []int{-1},
		}}
		g.Contexts = nil
		return g
	}
	isOK(t, "as it is", results(house.Suspects(base(), base(), "7 kg1")), []int{})
	for name, do := range map[string]func(c *api.Convention){
		"a literal atom":      func(c *api.Convention) { c.Pattern[1].Text = "  " },
		"the sort of an atom": func(c *api.Convention) { c.Pattern[0].Sort = sortLetters },
		"the least":           func(c *api.Convention) { c.Pattern[0].Least = 2 },
		"the most":            func(c *api.Convention) { c.Pattern[0].Most = 3 },
		"an atom less":        func(c *api.Convention) { c.Pattern = c.Pattern[:3] },
		"an atom more":        func(c *api.Convention) { c.Pattern = append(c.Pattern, exactly("x")) },
		"the kind":            func(c *api.Convention) { c.Says[0].Kind = api.SayDigits },
		"a word":              func(c *api.Convention) { c.Says[1].Words[1] = "c" },
		"a word less":         func(c *api.Convention) { c.Says[1].Words = c.Says[1].Words[:1] },
		"no words":            func(c *api.Convention) { c.Says[1].Words = nil },
		"the group":           func(c *api.Convention) { c.Says[0].Group = 2 },
		"the set":             func(c *api.Convention) { c.Says[0].Set = 1 },
		"the gender":          func(c *api.Convention) { c.Says[0].Gender = -1 },
		"the case":            func(c *api.Convention) { c.Says[0].Case = 1 },
		"the table":           func(c *api.Convention) { c.Says[2].Table = 1 },
		"the term":            func(c *api.Convention) { c.Says[3].Term = 2 },
		"a say less":          func(c *api.Convention) { c.Says = c.Says[:3] },
		"a say more":          func(c *api.Convention) { c.Says = append(c.Says, row) },
		"the order of says":   func(c *api.Convention) { slices.Reverse(c.Says) },
		"the cost":            func(c *api.Convention) { c.Cost = 0 },
		"before":              func(c *api.Convention) { c.Before[0] = sortBlank },
		"no before":           func(c *api.Convention) { c.Before = nil },
		"the same before":     func(c *api.Convention) { c.Before = []int{-1, -1} },
		"after":               func(c *api.Convention) { c.After[0] = sortBlank },
		"no after":            func(c *api.Convention) { c.After = nil },
	} {
		h := base()
		do(&h.Conventions[0])
		isOK(t, name, results(house.Suspects(base(), h, "7 kg1")), []int{0})
		isOK(t, name, results(house.Suspects(h, base(), "7 kg1")), []int{0})
	}
}

// TestSuspectEmpty: nil and empty lists are the same.
func TestSuspectEmpty(t *testing.T) {
	g, h := grammarE(), grammarE()
	for i := range h.Conventions {
		h.Conventions[i].Before, h.Conventions[i].After = []int{}, []int{}
		for j := range h.Conventions[i].Says {
			h.Conventions[i].Says[j].Words = []string{}
		}
	}
	h.Conventions[2].Says = []api.Say{}
	isOK(t, "Suspects", results(house.Suspects(g, h, "7 kg a")), []int{})
}

func TestPatches(t *testing.T) {
	dear := api.Context{Left: -1, Right: -1, Cost: 100}
	for _, c := range []struct {
		name     string
		g        api.Grammar
		written  string
		from, to int
		cost     int // -1: there is no patch
	}{
		{"less than 1", grammarE(), "7 kg", 2, 4, 0},
		{"less than 2", grammarE(), "7 kg", 0, 4, 1},
		{"less than 3 in the middle", grammarE(), "7 kgs m", 2, 6, 2},
		{"less than 3 + 0 + 3", grammarE(), "kgs mmm", 0, 7, 5},
		{"not less than 0", grammarE(), "7 kg", 1, 2, -1},
		{"two blanks", grammarE(), "7  kg", 1, 3, 4},
		{"one of two blanks, but the other one is earlier", grammarE(), "7  kg", 1, 2, -1},
		{"the other one of two blanks", grammarE(), "7  kg", 2, 3, 4},
		{"no other reading", grammarE(), "7?", 1, 2, 1000000},
		{"no other reading of a part", grammarE(), "7?!", 1, 2, -1},
		{"three bytes", grammarE(), "7\u20ac", 1, 4, 1000000},
		{"across characters", grammarE(), "a\u20acb", 0, 4, 1000000},
		{"an equal cost comes later", withCost(3, 0), "kg", 0, 2, -1},
		{"the cheaper one of two", withCost(0, 1000000), "7", 0, 1, 1},
		{"dear neighbors", api.Grammar{System: digits(), Sorts: grammarE().Sorts, Conventions: grammarE().Conventions[:3:3], Contexts: []api.Context{dear}, Tables: grammarE().Tables}, "7 a", 0, 2, 100},
	} {
		words := []string{"said", "so"}
		g, differ, e := house.Patch(c.g, c.written, c.from, c.to, words, []string{"", c.written, c.written[c.to:]})
		if c.cost < 0 {
			isError(t, c.name, results(g, differ, e), api.ErrNone)
			continue
		}
		want := c.g
		want.Conventions = append(slices.Clone(c.g.Conventions), literal(c.written[c.from:c.to], c.cost, words...))
		isOK(t, c.name, results(g, differ, e), want, []int{1})
	}
}

func TestPatchWithoutWords(t *testing.T) {
	want := with(literal("kg", 0))
	isOK(t, "no words", results(house.Patch(grammarE(), "7 kg", 2, 4, nil, nil)), want, []int{})
	isOK(t, "empty lists", results(house.Patch(grammarE(), "7 kg", 2, 4, []string{}, []string{})), want, []int{})
}

// TestPatchOfMany: the piece is at several places, of which all are read in the new way.
func TestPatchOfMany(t *testing.T) {
	g, differ, e := house.Patch(grammarE(), "kg 1 kg", 5, 7, []string{"k"}, []string{"7 kg", "kgs", "1", "", "kgkg", "?kg"})
	isOK(t, "Patch", results(g, differ, e), with(literal("kg", 0, "k")), []int{0, 4})
}

// TestHalving: which costs work need not be from 0 up to one of them; the halving decides.
func TestHalving(t *testing.T) {
	// With the first a, all of a b a c a costs 3 c, or 1 c with baca; without it, 2 c with ab, or nothing of c with abaca.
	base := func(baca int) api.Grammar {
		return api.Grammar{System: digits(), Conventions: []api.Convention{
			literal("b", 0), literal("c", 0), literal("ab", 100000), literal("baca", baca),
		}}
	}
	for _, c := range []struct {
		name       string
		g          api.Grammar
		more       []api.Convention
		works, not []int
		want       int
	}{
		{"beyond those that do not", base(400000), []api.Convention{literal("abaca", 1000000)}, []int{0, 99999, 300001, 599999}, []int{100000, 300000, 600000}, 599999},
		{"before those that do not", base(700000), nil, []int{0, 99999, 600001, 1000000}, []int{100000, 250000, 500000, 600000}, 99999},
		{"without the middle", base(600000), nil, []int{0, 99999, 500001, 1000000}, []int{100000, 500000}, 99999},
		{"with the middle", base(599999), nil, []int{0, 99999, 500000, 1000000}, []int{100000, 499999}, 1000000},
		{"without the middle of the half", base(350000), []api.Convention{literal("abaca", 750000)}, []int{0, 99999, 250001, 399999}, []int{100000, 250000, 400000}, 99999},
		{"with the middle of the half", base(349999), []api.Convention{literal("abaca", 749999)}, []int{0, 99999, 250000, 399999}, []int{100000, 249999, 400000}, 399999},
	} {
		c.g.Conventions = append(c.g.Conventions, c.more...)
		isFirst := func(cost int) bool {
			_, steps, _ := modelReading(modelPatched(c.g, "abaca", 0, 1, nil, cost), "abaca")
			return steps[0].To == 1
		}
		for _, cost := range c.works {
			isSame(t, c.name, isFirst(cost), true)
		}
		for _, cost := range c.not {
			isSame(t, c.name, isFirst(cost), false)
		}
		g, _, e := house.Patch(c.g, "abaca", 0, 1, nil, nil)
		isOK(t, c.name, results(g, e), modelPatched(c.g, "abaca", 0, 1, nil, c.want))
	}
}
