package tract_test

import (
	"slices"
	"testing"

	"declaim/api"
	"declaim/tract"
)

func TestScatters(t *testing.T) {
	for _, c := range []struct {
		name               string
		areas, waves, want []int
	}{
		{"from both sides", []int{1, 3}, []int{8, 8}, []int{8, 8}},
		{"from the wide side", []int{1, 3}, []int{0, 8}, []int{12, 4}},
		{"toward zero", []int{1, 2}, []int{1, 0}, []int{0, 0}}, // -0.3, 0.7
		{"toward zero from below", []int{1, 2}, []int{-1, 0}, []int{0, 0}},
		{"toward zero, greater", []int{1, 2}, []int{4, 0}, []int{-1, 2}}, // -1.3, 2.7
		{"toward zero, less", []int{1, 2}, []int{-4, 0}, []int{1, -2}},
		{"three", []int{1, 1, 1}, []int{3, 0, 0}, []int{-1, 2, 2}},
		{"three unlike ones", []int{2, 1, 3}, []int{5, 0, -1}, []int{-2, 2, 3}}, // 14 / 6: -2.7, 2.3, 3.3
		{"an end of one", []int{1000}, []int{-7}, []int{-7}},
		{"ten", slices.Repeat([]int{5}, 10), []int{10, 0, 0, 0, 0, 0, 0, 0, 0, 0}, []int{-8, 2, 2, 2, 2, 2, 2, 2, 2, 2}},
		{"silence", []int{4, 5}, []int{0, 0}, []int{0, 0}},
		{"the greatest waves", []int{1, 1000}, []int{1 << 30, -1 << 30}, []int{-3216934795, -1069451147}},
	} {
		isOK(t, c.name, results(tract.Scatter(c.areas, c.waves)), c.want)
	}
}

// tubeOf is a tube of which each section has been fed once, at once; what they sum up to must be at most api.MaxFeed.
func tubeOf(t *testing.T, s api.Shape, amounts ...int) *tract.Tube {
	t.Helper()
	tube := made(t, s)
	var feeds []api.Feed
	for section, amount := range amounts {
		feeds = append(feeds, feed(section, amount))
	}
	stepped(t, tube, feeds...)
	return tube
}

func TestNew(t *testing.T) {
	tube := made(t, branched())
	isSame(t, "waves", wavesOf(tube), [][]int{{0, 0, 0}, {0, 0, 0}, {0, 0}, {0, 0}})
	isSame(t, "energy and steps", []int{tube.Energy(), tube.Steps()}, []int{0, 0})
	tube = made(t, api.Shape{Areas: []int{7}})
	isSame(t, "waves of one section", wavesOf(tube), [][]int{{0}, {0}, nil, nil})
	one, e := tract.New(api.Shape{Areas: []int{0}})
	if one != nil || e != api.ErrArg {
		t.Errorf("a tube %v, error %d", one, e)
	}
}

// TestBranchSteps: waves of a branched tube, step by step.
func TestBranchSteps(t *testing.T) {
	tube := tubeOf(t, branched(), 100, 10, -20)
	isSame(t, "fed", wavesOf(tube), [][]int{{100, 10, -20}, {0, 0, 0}, {0, 0}, {0, 0}})
	isSame(t, "energy", tube.Energy(), 2*10000+100+3*400)

	// At the joint of 2 1 1: s = 400, S = 4; at that of 1 3: s = 20, S = 4; lips: 12, and -8 is heard.
	isSame(t, "heard", stepped(t, tube), api.Heard{Lips: -8})
	isSame(t, "waves", wavesOf(tube), [][]int{{0, 100, 5}, {0, -5, 12}, {100, 0}, {0, 0}})

	// s = 2 (-5) = -10, S = 4; s = 2 (100 + 36) = 272, S = 4; branch 1 2: s = 200, S = 3; lips: -3.
	isSame(t, "heard", stepped(t, tube), api.Heard{Lips: 2})
	isSame(t, "waves", wavesOf(tube), [][]int{{0, 2, 56}, {-2, -32, -3}, {-2, 66}, {-33, 0}})

	// glottis: -1.6; s = 2 (-32 - 33) = -130, S = 4; s = 2 (2 - 9) = -14, S = 4; branch: s = -4, S = 3; lips: -33.6; nose: -33.
	isSame(t, "heard", stepped(t, tube, feed(1, 7)), api.Heard{Lips: 23, Nose: 33})
	isSame(t, "waves", wavesOf(tube), [][]int{{-1, 7, 0}, {-32, -5, -33}, {0, -1}, {0, -33}})
	isSame(t, "steps", tube.Steps(), 4)
}

func TestJointBehind(t *testing.T) {
	s := api.Shape{Areas: []int{1, 1, 1, 1}, Branch: []int{2}, Joint: 2, Nose: 10}
	tube := tubeOf(t, s, 0, 0, 80)
	isSame(t, "heard", stepped(t, tube), api.Heard{})
	isSame(t, "waves", wavesOf(tube), [][]int{{0, 0, 0, 40}, {0, 0, -40, 0}, {40}, {0}})
	isSame(t, "heard", stepped(t, tube), api.Heard{Lips: 40, Nose: 36})
	isSame(t, "waves", wavesOf(tube), [][]int{{0, 0, 0, 0}, {0, -40, 0, 0}, {0}, {-4}})
}

func TestEnds(t *testing.T) {
	for _, c := range []struct {
		glottis, lips, fed  int
		heard, thrown, back int
	}{
		{0, 0, 100, 100, 0, 0},
		{50, 50, 100, 50, -50, -25},
		{99, 99, 100, 1, -99, -98},
		{99, 99, 1, 1, 0, 0},
		{99, 99, -1, -1, 0, 0},
		{99, 99, -2, -1, 1, 0},
		{0, 99, 500, 5, -495, 0},
		{99, 1, -500, -495, 5, 4},
	} {
		tube := tubeOf(t, api.Shape{Areas: []int{3}, Glottis: c.glottis, Lips: c.lips}, c.fed)
		isSame(t, "heard", stepped(t, tube), api.Heard{Lips: c.heard})
		isSame(t, "waves", wavesOf(tube), [][]int{{0}, {c.thrown}, nil, nil})
		isSame(t, "heard", stepped(t, tube), api.Heard{})
		isSame(t, "waves", wavesOf(tube), [][]int{{c.back}, {0}, nil, nil})
	}
}

func TestFeeds(t *testing.T) {
	tube := made(t, api.Shape{Areas: []int{1, 1, 1}})
	stepped(t, tube, feed(2, -3), feed(0, 5))
	isSame(t, "waves", wavesOf(tube), [][]int{{5, 0, -3}, {0, 0, 0}, nil, nil})
	stepped(t, tube, feed(1, 10), feed(2, 0))
	isSame(t, "added", wavesOf(tube), [][]int{{0, 15, 0}, {0, 0, 0}, nil, nil})
}

func TestRests(t *testing.T) {
	s := branched()
	one, many := tubeOf(t, s, 400, 50, -50), tubeOf(t, s, 400, 50, -50)
	var want []api.Heard
	for range 40 {
		want = append(want, stepped(t, one))
	}
	isOK(t, "no steps", results(many.Rest(0)), []api.Heard{})
	isOK(t, "Rest", results(many.Rest(13)), want[:13])
	isOK(t, "Rest", results(many.Rest(27)), want[13:])
	isSame(t, "looks", looks(many), looks(one))
}

func TestChanges(t *testing.T) {
	s := api.Shape{Areas: []int{4, 4, 4}, Branch: []int{6, 4}, Joint: 1, Glottis: 99, Lips: 99, Nose: 99}
	state := func() *tract.Tube {
		tube := tubeOf(t, s, 100, 200, 50)
		stepped(t, tube)
		stepped(t, tube, feed(0, -9))
		return tube
	}
	before := [][]int{{-9, 0, 78}, {-85, -70, -112}, {29, 136}, {22, 0}}
	isSame(t, "waves", wavesOf(state()), before)
	for _, c := range []struct {
		name          string
		areas, branch []int
		want          [][]int
	}{
		{"as they are", []int{4, 4, 4}, []int{6, 4}, before},
		{"all less", []int{1, 3, 2}, []int{5, 1}, before},
		{"all greater", []int{8, 8, 5}, []int{7, 1000}, [][]int{{-4, 0, 62}, {-42, -35, -89}, {24, 0}, {18, 0}}},
		{"one greater", []int{4, 4, 6}, []int{6, 4}, [][]int{{-9, 0, 52}, {-85, -70, -74}, {29, 136}, {22, 0}}},
		{"greater and less", []int{4, 5, 3}, []int{2, 5}, [][]int{{-9, 0, 78}, {-85, -56, -112}, {29, 108}, {22, 0}}},
	} {
		tube := state()
		isSame(t, c.name, tube.Change(c.areas, c.branch), api.OK)
		isSame(t, c.name, wavesOf(tube), c.want)
		isSame(t, c.name, tube.Steps(), 3)
	}
	tube := state()
	isSame(t, "to others and back", []api.Errno{tube.Change([]int{8, 4, 4}, []int{6, 4}), tube.Change([]int{4, 4, 4}, []int{6, 4})}, []api.Errno{0, 0})
	isSame(t, "to others and back", wavesOf(tube), [][]int{{-4, 0, 78}, {-42, -70, -112}, {29, 136}, {22, 0}})
}

// TestChangedScatter: after a change, waves are thrown back by the new areas.
func TestChangedScatter(t *testing.T) {
	tube := made(t, api.Shape{Areas: []int{1, 1}})
	isSame(t, "error", tube.Change([]int{1, 3}, nil), api.OK)
	stepped(t, tube, feed(0, 8))
	stepped(t, tube)
	isSame(t, "waves", wavesOf(tube), [][]int{{0, 4}, {-4, 0}, nil, nil})
	isSame(t, "energy", tube.Energy(), 64)
}

func TestFollowers(t *testing.T) {
	for _, c := range []struct{ x, goal, speed, want int }{
		{5, 5, 1000, 5},
		{5, 6, 1, 6},
		{5, 4, 1, 4},
		{0, 1000, 1, 1},
		{0, 1999, 1, 1},
		{0, 2000, 1, 2},
		{0, -1999, 1, -1},
		{0, 3, 999, 2},
		{0, -3, 999, -2},
		{0, 1, 999, 1},
		{7, -7, 1000, -7},
		{-1000000000, 1000000000, 1000, 1000000000},
		{1000000000, -1000000000, 999, -998000000},
	} {
		isOK(t, "Follow", results(tract.Follow(c.x, c.goal, c.speed)), c.want)
	}
}

func TestScores(t *testing.T) {
	to := func(first, last, start, end, area, speed int) api.Gesture {
		return api.Gesture{First: first, Last: last, Start: start, End: end, Area: area, Speed: speed}
	}
	for _, c := range []struct {
		name     string
		rest     []int
		gestures []api.Gesture
		times    int
		want     [][]int
	}{
		{"no times", []int{5, 6}, nil, 0, nil},
		{"at rest", []int{5, 6}, nil, 2, [][]int{{5, 6}, {5, 6}}},
		{"at once", []int{5}, []api.Gesture{to(0, 0, 0, 9, 900, 1000)}, 2, [][]int{{900}, {900}}},
		{"from and to a section", []int{5, 5, 5, 5}, []api.Gesture{to(1, 2, 0, 1, 9, 1000)}, 1, [][]int{{5, 9, 9, 5}}},
		{"from and to a time", []int{5}, []api.Gesture{to(0, 0, 1, 3, 9, 1000)}, 5, [][]int{{5}, {9}, {9}, {8}, {7}}},
		{"the last gesture", []int{5}, []api.Gesture{to(0, 0, 0, 2, 9, 1000), to(0, 0, 1, 3, 2, 1000)}, 3, [][]int{{9}, {2}, {2}}},
		{"the first one again", []int{5}, []api.Gesture{to(0, 0, 0, 3, 9, 1000), to(0, 0, 1, 2, 2, 1000)}, 3, [][]int{{9}, {2}, {9}}},
		{"back to rest with the speed 100", []int{100}, []api.Gesture{to(0, 0, 0, 1, 200, 1000)}, 4, [][]int{{200}, {199}, {198}, {196}}}, // behind 200 190 181 173
		{"with less than 1", []int{5}, []api.Gesture{to(0, 0, 0, 9, 8, 1)}, 4, [][]int{{6}, {7}, {8}, {8}}},
	} {
		isOK(t, c.name, results(tract.Areas(c.rest, c.gestures, c.times)), c.want)
	}
}

func TestPulses(t *testing.T) {
	for _, c := range []struct {
		name      string
		stretches []api.Glottal
		want      []int
	}{
		{"none", nil, nil},
		{"closed", []api.Glottal{{Periods: 1, Length: 3, Open: 0, Height: 9}}, []int{0, 0, 0}},
		{"open once", []api.Glottal{{Periods: 2, Length: 2, Open: 1, Height: 9}}, []int{0, 0, 0, 0}},
		{"an odd pulse", []api.Glottal{{Periods: 1, Length: 5, Open: 3, Height: 10}}, []int{0, 8, 8, 0, 0}}, // 80 / 9
		{"an even one", []api.Glottal{{Periods: 1, Length: 3, Open: 2, Height: 500}}, []int{0, 500, 0}},
		{"silent", []api.Glottal{{Periods: 1, Length: 2, Open: 2}}, []int{0, 0}},
		{"two", []api.Glottal{{Periods: 1, Length: 2, Open: 2, Height: 5}, {Periods: 2, Length: 1, Open: 1, Height: 7}, {Periods: 1, Length: 4, Open: 4, Height: 4}}, []int{0, 5, 0, 0, 0, 3, 4, 3}},
	} {
		isOK(t, c.name, results(tract.Pulses(c.stretches...)), c.want)
	}
}

func TestNoises(t *testing.T) {
	isOK(t, "silent", results(tract.Noise(7, 0, 3)), []int{0, 0, 0})
	isOK(t, "none", results(tract.Noise(7, 9, 0)), []int{})
	// The states 1013904223 and 1196435762 give 15470 and 18256; the last seed gives 1012239698 and 15445.
	isOK(t, "of 0", results(tract.Noise(0, 500, 2)), []int{15470%1001 - 500, 18256%1001 - 500})
	isOK(t, "of the last seed", results(tract.Noise(1<<32-1, 500, 1)), []int{15445%1001 - 500})
}

func TestUtterances(t *testing.T) {
	flat := api.Shape{Areas: []int{1, 1}, Glottis: 50, Lips: 50}
	for _, c := range []struct {
		name           string
		s              api.Shape
		gestures       []api.Gesture
		glottis, noise []int
		at             int
		want           []api.Heard
	}{
		{"nothing", flat, nil, nil, nil, 0, nil},
		{"a pulse", flat, nil, []int{8, 0, 0, 0, 0, 0, 0}, nil, 0, []api.Heard{{}, {}, {Lips: 4}, {}, {}, {}, {Lips: -1}}},
		{"noise alone", flat, nil, []int{0, 0, 0}, []int{8}, 1, []api.Heard{{}, {Lips: 4}, {}}},
		{"both at the glottis", flat, nil, []int{3, 0, 0, 0}, []int{5, 0}, 0, []api.Heard{{}, {}, {Lips: 4}, {}}},
		{"against each other", flat, nil, []int{3, 0, 0, 0}, []int{-3, 0}, 0, []api.Heard{{}, {}, {}, {}}},
		{"both", flat, nil, []int{8, 0, 0, 0}, []int{6, 0}, 1, []api.Heard{{}, {Lips: 3}, {Lips: 4}, {}}},
		{"in a branch", api.Shape{Areas: []int{2, 1}, Branch: []int{1}, Nose: 25}, nil, []int{8, 0, 0}, nil, 0, []api.Heard{{}, {}, {Lips: 8, Nose: 6}}},
		{"through a gesture", flat, []api.Gesture{{First: 1, Last: 1, Start: 1, End: 2, Area: 3, Speed: 1000}}, []int{8, 0, 0, 0}, nil, 0, []api.Heard{{}, {}, {Lips: 2}, {}}},
		{"a gesture before the first step", flat, []api.Gesture{{First: 0, Last: 0, Start: 0, End: 1, Area: 3, Speed: 1000}}, []int{8, 0, 0}, nil, 0, []api.Heard{{}, {}, {Lips: 5}}}, // of 2 1: 10 2/3
	} {
		isOK(t, c.name, results(tract.Utter(c.s, c.gestures, c.glottis, c.noise, c.at)), c.want)
	}
}
