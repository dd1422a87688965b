package pitch_test

import (
	"testing"

	"declaim/api"
	"declaim/pitch"
)

// Cases that the chapter names.

func TestShapes(t *testing.T) {
	knots := []api.Knot{{Time: 2, Value: 400}, {Time: 5, Value: 1000}, {Time: 6, Value: -1000}}
	for _, c := range []struct {
		name  string
		shape []api.Knot
		want  map[int]int // of the height 1000
	}{
		{"before, at, between and after knots", knots, map[int]int{-4000: 0, 0: 0, 1: 0, 2: 400, 3: 600, 4: 800, 5: 1000, 6: -1000, 7: 0, 8000: 0}},
		{"one knot", knots[:1], map[int]int{1: 0, 2: 400, 3: 0}},
		{"a knot at 0", []api.Knot{{Value: 7}}, map[int]int{-1: 0, 0: 7, 1: 0}},
		{"the last time", []api.Knot{{Value: -1000}, {Time: 4000, Value: 1000}}, map[int]int{-1: 0, 0: -1000, 2000: 0, 3000: 500, 4000: 1000, 4001: 0}},
	} {
		for at, want := range c.want {
			isOK(t, c.name, results(pitch.Value(api.Command{Height: 1000, Shape: c.shape}, at)), want)
		}
	}
}

func TestShiftedCommand(t *testing.T) {
	for _, begin := range []int{-4000, -7, 0, 3, 4000} {
		c := commandE()
		c.At = begin
		for after, want := range map[int]int{-1: 0, 1: 25, 4: 100, 7: 25, 8: 0} {
			if at := begin + after; at >= -4000 {
				isOK(t, "Value", results(pitch.Value(c, at)), want)
			}
		}
	}
}

// TestRoundedOnce: the product of the height and the fraction is rounded, not the fraction; two integers that are equally near are rounded away from 0.
func TestRoundedOnce(t *testing.T) {
	for _, c := range []struct {
		height, value, time, of, want int
	}{
		{500, 1, 1, 1, 1},                    // 0.5
		{-500, 1, 1, 1, -1},                  // -0.5
		{500, -1, 1, 1, -1},                  // -0.5
		{499, 1, 1, 1, 0},                    // 0.499
		{-1500, 1, 1, 1, -2},                 // -1.5
		{100000, 1, 1, 3, 33},                // 33.3; a third would be rounded to 0
		{100000, 1, 2, 3, 67},                // 66.7; two thirds would be rounded to 1
		{-100000, 1, 2, 3, -67},              // -66.7
		{100000, 1000, 3999, 4000, 99975},    // 99975
		{100000, 1000, 1, 4000, 25},          // 25
		{100000, 1, 1, 3000, 0},              // 0.03
		{3, 1000, 1, 6, 1},                   // 0.5
		{-3, 1000, 1, 6, -1},                 // -0.5
		{2, 1000, 1, 6, 0},                   // 0.33
		{1, 999, 1, 2, 0},                    // 0.4995
		{-100000, -1000, 3999, 4000, 99975},  // 99975
		{-100000, 1000, 2000, 4000, -50000},  // -50000
		{100000, -1000, 1333, 4000, -33325},  // -33325
		{99999, 1000, 2000, 4000, 50000},     // 49999.5
		{-99999, 1000, 2000, 4000, -50000},   // -49999.5
		{99999, -1000, 2000, 4000, -50000},   // -49999.5
		{99999, 1000, 1999, 4000, 49975},     // 49974.50025
		{99998, 1000, 1999, 4000, 49974},     // 49974.0005
		{100000, 1000, 4000, 4000, 100000},   // 100000
		{-100000, 1000, 4000, 4000, -100000}, // -100000
	} {
		command := api.Command{Height: c.height, Shape: []api.Knot{{}, {Time: c.of, Value: c.value}}}
		isOK(t, "Value", results(pitch.Value(command, c.time)), c.want)
	}
}

func TestCurves(t *testing.T) {
	isOK(t, "no values", results(pitch.Curve(0, 5, commandE())), []int{})
	isOK(t, "no commands", results(pitch.Curve(3, -5)), []int{-5, -5, -5})
	early := commandE()
	early.At = -3
	isOK(t, "begun before", results(pitch.Curve(4, 0, early)), []int{75, 100, 75, 50})
	isOK(t, "after the end", results(pitch.Curve(4, 1, commandE())), []int{1, 1, 1, 1})
	half := api.Command{Height: 500, Shape: []api.Knot{{Value: 1}}}
	isOK(t, "each command is rounded", results(pitch.Curve(2, 10, half, half, half)), []int{13, 10})
}

func TestContours(t *testing.T) {
	target := func(time, value, weight int) api.Target { return api.Target{Time: time, Value: value, Weight: weight} }
	for _, c := range []struct {
		name    string
		problem api.Contour
		want    []int
		cost    int
	}{
		{"no targets", api.Contour{Frames: 3, Low: -2, High: 5, Slope: 2}, []int{-2, -2, -2}, 0},
		{"no targets, but smooth", api.Contour{Frames: 3, Low: -2, High: 5, Slope: 2, Smooth: 9}, []int{-2, -2, -2}, 0},
		{"no weight", api.Contour{Frames: 2, Low: 1, High: 5, Slope: 2, Targets: []api.Target{target(1, 4, 0)}}, []int{1, 1}, 0},
		{"one frame", api.Contour{Frames: 1, Low: 1, High: 5, Targets: []api.Target{target(0, 4, 3)}}, []int{4}, 0},
		{"one value", api.Contour{Frames: 3, Low: 4, High: 4, Slope: 400, Targets: []api.Target{target(1, 6, 3)}}, []int{4, 4, 4}, 12},
		{"the first of two", api.Contour{Frames: 1, High: 5, Targets: []api.Target{target(0, 2, 1), target(0, 3, 1)}}, []int{2}, 1},
		{"the first way up", api.Contour{Frames: 4, High: 3, Slope: 1, Targets: []api.Target{target(0, 0, 1), target(3, 2, 1)}}, []int{0, 0, 1, 2}, 0},
		{"the first way down", api.Contour{Frames: 4, High: 3, Slope: 1, Targets: []api.Target{target(0, 2, 1), target(3, 0, 1)}}, []int{2, 1, 0, 0}, 0},
		{"free frames before and after", api.Contour{Frames: 5, Low: 1, High: 9, Slope: 2, Targets: []api.Target{target(2, 8, 1)}}, []int{4, 6, 8, 6, 4}, 0},
		{"a steep way", api.Contour{Frames: 3, High: 400, Slope: 400, Targets: []api.Target{target(1, 400, 1)}}, []int{0, 400, 0}, 0},
		{"targets below and above the range", api.Contour{Frames: 2, Low: 3, High: 5, Slope: 2, Targets: []api.Target{target(0, -9, 1), target(1, 9, 2)}}, []int{3, 5}, 176},
		{"the slope 0", api.Contour{Frames: 3, High: 9, Targets: []api.Target{target(0, 0, 1), target(2, 9, 2)}}, []int{6, 6, 6}, 54},
		{"smooth", api.Contour{Frames: 3, High: 9, Slope: 9, Smooth: 1, Targets: []api.Target{target(0, 0, 1), target(2, 8, 1)}}, []int{2, 4, 6}, 16},
		{"smooth, the first of several", api.Contour{Frames: 3, High: 9, Slope: 9, Smooth: 1, Targets: []api.Target{target(0, 0, 1000), target(2, 3, 1000)}}, []int{0, 1, 3}, 5},
		{"weights against each other", api.Contour{Frames: 1, High: 9, Targets: []api.Target{target(0, 1, 3), target(0, 9, 1)}}, []int{3}, 48},
	} {
		isOK(t, c.name, results(pitch.Best(c.problem)), c.want, c.cost)
		isOK(t, c.name, results(pitch.Cost(c.problem, c.want)), c.cost)
		isOK(t, c.name, results(pitch.Settled(c.problem, c.want)), true)
	}
}

// TestShifts: contours that only one shift makes better.
func TestShifts(t *testing.T) {
	flat := func(slope, smooth int, values ...int) api.Contour {
		p := api.Contour{Frames: len(values), Low: 0, High: 9, Slope: slope, Smooth: smooth}
		for i, value := range values {
			p.Targets = append(p.Targets, api.Target{Time: i, Value: value, Weight: 1})
		}
		return p
	}
	for _, c := range []struct {
		name    string
		problem api.Contour
		contour []int
		want    bool
	}{
		{"one value up", flat(1, 0, 4, 5, 4), []int{4, 4, 4}, false},
		{"one value down", flat(1, 0, 4, 3, 4), []int{4, 4, 4}, false},
		{"the first value", flat(1, 0, 5, 4, 4), []int{4, 4, 4}, false},
		{"the last value", flat(1, 0, 4, 4, 3), []int{4, 4, 4}, false},
		{"all values", flat(0, 0, 4, 5, 5), []int{4, 4, 4}, false},
		{"all values, in vain", flat(0, 0, 4, 4, 5), []int{4, 4, 4}, true},
		{"two values", flat(1, 1, 4, 5, 5, 4), []int{4, 4, 4, 4}, true},
		{"two values for more", flat(1, 1, 4, 6, 6, 4), []int{4, 4, 4, 4}, false},
		{"one value, but not two", flat(9, 1, 4, 7, 4), []int{4, 4, 4}, false},
		{"not beyond High", flat(9, 0, 9, 12, 9), []int{9, 9, 9}, true},
		{"not beyond Low", flat(9, 0, 0, -3, 0), []int{0, 0, 0}, true},
		{"up to High", flat(9, 0, 8, 12, 8), []int{8, 8, 8}, false},
		{"down to Low", flat(9, 0, 1, -3, 1), []int{1, 1, 1}, false},
		{"not too steep before", flat(1, 0, 4, 6, 6), []int{4, 5, 6}, true},
		{"not too steep behind", flat(1, 0, 6, 6, 4), []int{6, 5, 4}, true},
		{"equally good", flat(0, 0, 4, 5), []int{4, 4}, true},
	} {
		isOK(t, c.name, results(pitch.Settled(c.problem, c.contour)), c.want)
		isSame(t, c.name, modelSettled(c.problem, c.contour), c.want)
	}
}

func TestFrequencies(t *testing.T) {
	for cents, want := range map[int]int{0: 27500, 1: 27516, 100: 29135, 1100: 51913, 1199: 54969, 11999: 28144195, 12000: 28160000} {
		isOK(t, "Frequency", results(pitch.Frequency(cents)), want)
	}
	for frequency, want := range map[int]int{27500: 0, 27515: 0, 27516: 1, 28144194: 11998, 28144195: 11999, 28159999: 11999, 28160000: 12000, 28160001: 12000, greatest: 12000} {
		isOK(t, "Cents", results(pitch.Cents(frequency)), want)
	}
	for _, frequency := range []int{27499, 0, -1, -27500, least} {
		isError(t, "Cents", results(pitch.Cents(frequency)), api.ErrNone)
	}
}

func TestPulses(t *testing.T) {
	for _, c := range []struct {
		name        string
		rate        int
		frequencies []int
		want        []int
		phase       int
	}{
		{"no samples", 1, nil, nil, 0},
		{"silence", 8, []int{0, 0, 0}, nil, 0},
		{"every second sample", 1, []int{500, 500, 500, 500, 500}, []int{1, 3}, 500},
		{"one less", 1, []int{500, 499, 500, 500}, []int{2}, 999},
		{"exactly", 2, []int{999, 1000, 1, 1000, 1000}, []int{2, 4}, 0},
		{"the rest of the phase", 1, []int{400, 400, 400, 400, 400}, []int{2, 4}, 0},
		{"the rest of the phase is kept", 1, []int{450, 450, 450, 450, 450}, []int{2, 4}, 250},
		{"up and down", 1, []int{0, 100, 500, 400, 0, 500, 499, 1}, []int{3, 7}, 0},
		{"the greatest rate", 192000, []int{96000000, 96000000, 95999999, 96000000, 1}, []int{1, 4}, 0},
	} {
		isOK(t, c.name, results(pitch.Pulses(c.rate, c.frequencies)), c.want)
		isOK(t, c.name, results(pitch.Count(c.rate, c.frequencies)), len(c.want), c.phase)
	}
}

func TestNotes(t *testing.T) {
	for _, c := range []struct {
		name  string
		notes []api.Note
		want  []int
	}{
		{"no notes", nil, nil},
		{"the lowest and the highest one", []api.Note{plainNote(0, 1), plainNote(119, 2)}, []int{0, 11900, 11900}},
		{"no glide to the first note", []api.Note{{Key: 5, Length: 3, Glide: 3, Period: 4}}, []int{500, 500, 500}},
		{"a glide down", []api.Note{plainNote(5, 1), {Key: 3, Length: 5, Glide: 4, Period: 4}}, []int{500, 500, 450, 400, 350, 300}},
		{"a glide of the whole note", []api.Note{plainNote(3, 1), {Key: 5, Length: 2, Glide: 2, Period: 4}}, []int{300, 300, 400}},
		{"a rounded glide up", []api.Note{plainNote(0, 1), {Key: 1, Length: 3, Glide: 3, Period: 4}}, []int{0, 0, 33, 67}},
		{"a rounded glide down", []api.Note{plainNote(1, 1), {Key: 0, Length: 3, Glide: 3, Period: 4}}, []int{100, 100, 67, 33}},
		{"halves up", []api.Note{plainNote(0, 1), {Key: 1, Length: 8, Glide: 8, Period: 4}}, []int{0, 0, 12, 25, 37, 50, 62, 75, 87}},
		{"halves down", []api.Note{plainNote(1, 1), {Key: 0, Length: 8, Glide: 8, Period: 4}}, []int{100, 100, 88, 75, 63, 50, 38, 25, 13}},
		{"a glide from the key, not from what was sung", []api.Note{{Key: 2, Length: 2, Depth: 100, Period: 4}, {Key: 4, Length: 2, Glide: 2, Period: 4}}, []int{200, 300, 200, 300}},
		{"a vibrato", []api.Note{{Key: 1, Length: 9, Depth: 8, Period: 8}}, []int{100, 104, 108, 104, 100, 96, 92, 96, 100}},
		{"the shortest vibrato", []api.Note{{Key: 1, Length: 6, Depth: 7, Period: 4}}, []int{100, 107, 100, 93, 100, 107}},
		{"a rounded vibrato", []api.Note{{Length: 6, Depth: 2, Period: 5}}, []int{0, 2, 1, -1, -2, 0}},
		{"halves of a vibrato", []api.Note{{Length: 9, Depth: 1, Period: 8}}, []int{0, 1, 1, 1, 0, -1, -1, -1, 0}},
		{"a late vibrato", []api.Note{{Key: 1, Length: 5, Delay: 3, Depth: 10, Period: 4}}, []int{100, 100, 100, 100, 110}},
		{"a vibrato after the end", []api.Note{{Key: 1, Length: 3, Delay: 3, Depth: 10, Period: 4}}, []int{100, 100, 100}},
		{"a vibrato in a glide, each rounded", []api.Note{plainNote(0, 1), {Key: 1, Length: 5, Glide: 3, Delay: 1, Depth: 2, Period: 5}}, []int{0, 0, 33, 69, 101, 99}},
		{"each note has its vibrato", []api.Note{{Length: 3, Depth: 4, Period: 4}, {Length: 2, Depth: 4, Period: 4}}, []int{0, 4, 0, 0, 4}},
	} {
		isOK(t, c.name, results(pitch.Sing(c.notes...)), c.want)
		isSame(t, c.name, modelSing(c.notes), c.want)
	}
}
