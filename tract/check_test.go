package tract_test

import (
	"slices"
	"testing"

	"declaim/api"
	"declaim/tract"
)

// judgeShape judges all calls with a shape.
func judgeShape(t *testing.T, name string, valid bool, s api.Shape) {
	t.Helper()
	isSame(t, name, tract.Check(s), orArg(valid))
	judge(t, name+": New", orArg(valid), results(tract.New(s)))
	judge(t, name+": Utter", orArg(valid), results(tract.Utter(s, nil, []int{1}, nil, 0)))
}

func TestCheckShapes(t *testing.T) {
	for n, valid := range map[int]bool{0: false, 1: true, api.MaxSections: true, api.MaxSections + 1: false, 9999: false} {
		judgeShape(t, "areas", valid, api.Shape{Areas: slices.Repeat([]int{5}, n)})
	}
	for n, valid := range map[int]bool{0: true, 1: true, api.MaxSections: true, api.MaxSections + 1: false, 9999: false} {
		judgeShape(t, "branch", valid, api.Shape{Areas: []int{5, 5}, Branch: slices.Repeat([]int{5}, n)})
	}
	judgeShape(t, "nothing", false, api.Shape{})
	judgeShape(t, "a branch alone", false, api.Shape{Branch: []int{5}})
	for area, valid := range bounds(1, api.MaxArea) {
		for i := range 3 {
			s := branched()
			s.Areas[i] = area
			judgeShape(t, "area", valid, s)
		}
		for i := range 2 {
			s := branched()
			s.Branch[i] = area
			judgeShape(t, "area of the branch", valid, s)
		}
	}
}

func TestCheckJoints(t *testing.T) {
	for _, n := range []int{2, 3, api.MaxSections} {
		for joint, valid := range bounds(0, n-2) {
			judgeShape(t, "joint", valid, api.Shape{Areas: slices.Repeat([]int{5}, n), Branch: []int{5}, Joint: joint})
		}
		for joint, valid := range bounds(0, 0) {
			judgeShape(t, "joint without a branch", valid, api.Shape{Areas: slices.Repeat([]int{5}, n), Joint: joint})
		}
	}
	for _, joint := range []int{-2, -1, 0, 1} {
		judgeShape(t, "a branch of one section", false, api.Shape{Areas: []int{5}, Branch: []int{5}, Joint: joint})
	}
}

func TestCheckEnds(t *testing.T) {
	for percent, valid := range bounds(0, 99) {
		s := branched()
		s.Glottis = percent
		judgeShape(t, "glottis", valid, s)
		s = branched()
		s.Lips = percent
		judgeShape(t, "lips", valid, s)
		s = branched()
		s.Nose = percent
		judgeShape(t, "nose", valid, s)
		judgeShape(t, "nose without a branch", percent == 0, api.Shape{Areas: []int{5, 5}, Nose: percent})
	}
	judgeShape(t, "a small nose without a branch", false, api.Shape{Areas: []int{5, 5}, Nose: 1})
}

func TestCheckScatter(t *testing.T) {
	for n, valid := range map[int]bool{0: false, 1: true, 10: true, 11: false} {
		ones := slices.Repeat([]int{1}, n)
		judge(t, "sections", orArg(valid), results(tract.Scatter(ones, ones)))
	}
	judge(t, "a wave less", api.ErrArg, results(tract.Scatter([]int{1, 1}, []int{1})))
	judge(t, "a wave more", api.ErrArg, results(tract.Scatter([]int{1}, []int{1, 1})))
	for i := range 3 {
		for area, valid := range bounds(1, api.MaxArea) {
			areas := []int{1, 1, 1}
			areas[i] = area
			judge(t, "area", orArg(valid), results(tract.Scatter(areas, []int{1, 2, 3})))
		}
		for wave, valid := range bounds(-1<<30, 1<<30) {
			waves := []int{1, 1, 1}
			waves[i] = wave
			judge(t, "wave", orArg(valid), results(tract.Scatter([]int{1, 2, 3}, waves)))
		}
	}
}

// TestCheckNil: a nil tube and a zero one are told before wrong arguments.
func TestCheckNil(t *testing.T) {
	for name, tube := range map[string]*tract.Tube{"nil": nil, "zero": {}} {
		isError(t, name, results(tube.Step()), api.ErrNil)
		isError(t, name, results(tube.Step(feed(-1, 0))), api.ErrNil)
		isError(t, name, results(tube.Rest(0)), api.ErrNil)
		isError(t, name, results(tube.Rest(-1)), api.ErrNil)
		isError(t, name, results(tube.Rest(greatest)), api.ErrNil)
		isSame(t, name, tube.Change(nil, nil), api.ErrNil)
		isSame(t, name, tube.Change([]int{0}, []int{0}), api.ErrNil)
		isSame(t, name, wavesOf(tube), make([][]int, 4))
		isSame(t, name, []int{tube.Energy(), tube.Steps()}, []int{0, 0})
	}
}

// judgeStep judges a step of a tube with a branch; with an error, nothing changes.
func judgeStep(t *testing.T, name string, valid bool, feeds ...api.Feed) {
	t.Helper()
	tube := tubeOf(t, branched(), 100, 10, -20)
	before := looks(tube)
	judge(t, name, orArg(valid), results(tube.Step(feeds...)))
	if after := looks(tube); (after == before) == valid {
		t.Errorf("%s: from %s to %s", name, before, after)
	}
}

func TestCheckFeeds(t *testing.T) {
	for section, valid := range bounds(0, 2) {
		judgeStep(t, "section", valid, feed(section, 5))
		judgeStep(t, "section of nothing", valid, feed(section, 0))
		judgeStep(t, "the second section", valid && section != 1, feed(1, 5), feed(section, 5))
	}
	for amount, valid := range bounds(-api.MaxFeed, api.MaxFeed) {
		judgeStep(t, "amount", valid, feed(1, amount))
		judgeStep(t, "amount after one of 0", valid, feed(0, 0), feed(1, amount))
		judgeStep(t, "amount after another", false, feed(0, -1), feed(1, amount))
	}
	judgeStep(t, "together", true, feed(0, 200), feed(1, -299), feed(2, 1))
	judgeStep(t, "too much together", false, feed(0, 200), feed(1, -299), feed(2, -2))
	judgeStep(t, "none", true)
	judgeStep(t, "one section twice", false, feed(1, 0), feed(1, 0))
	judgeStep(t, "one section twice, and another", false, feed(1, 5), feed(0, 1), feed(1, 5))
	judgeStep(t, "very many", false, slices.Repeat([]api.Feed{feed(1, 0)}, 9999)...)
	judgeStep(t, "amounts with a sum around 0", false, feed(0, least), feed(1, least))
}

func TestCheckSteps(t *testing.T) {
	tube := tubeOf(t, branched(), 100, 10, -20)
	before := looks(tube)
	isError(t, "with one before, one too many", results(tube.Rest(api.MaxSteps)), api.ErrLong)
	isSame(t, "looks", looks(tube), before)
	judge(t, "the last steps but one", api.OK, results(tube.Rest(api.MaxSteps-2)))
	judge(t, "the last one", api.OK, results(tube.Step(feed(0, 9))))
	before = looks(tube)
	isSame(t, "steps", tube.Steps(), api.MaxSteps)
	isError(t, "one more", results(tube.Step()), api.ErrLong)
	isError(t, "a wrong one more", results(tube.Step(feed(-1, 0))), api.ErrArg)
	isError(t, "Rest", results(tube.Rest(1)), api.ErrLong)
	isError(t, "Rest", results(tube.Rest(api.MaxSteps)), api.ErrLong)
	isSame(t, "looks", looks(tube), before)
	isOK(t, "Rest", results(tube.Rest(0)), []api.Heard{})
	isSame(t, "Change", tube.Change([]int{1, 1, 1}, []int{1, 1}), api.OK)
}

// TestCheckRest: a number of steps out of its range is ErrArg, however many steps the tube has made.
func TestCheckRest(t *testing.T) {
	for steps, valid := range bounds(0, api.MaxSteps) {
		judge(t, "a new tube", orArg(valid), results(made(t, branched()).Rest(steps)))
		if valid {
			continue
		}
		tube := tubeOf(t, branched(), 100, 10, -20)
		for _, before := range []int{1, api.MaxSteps} {
			judge(t, "steps before", api.OK, results(tube.Rest(before-tube.Steps())))
			same := looks(tube)
			isError(t, "Rest", results(tube.Rest(steps)), api.ErrArg)
			isSame(t, "looks", looks(tube), same)
		}
	}
}

// judgeChange judges a change of a tube with a branch; with an error, nothing changes.
func judgeChange(t *testing.T, name string, valid bool, areas, branch []int) {
	t.Helper()
	tube, same := tubeOf(t, branched(), 100, 10, -20), tubeOf(t, branched(), 100, 10, -20)
	before := looks(tube)
	isSame(t, name, tube.Change(areas, branch), orArg(valid))
	if valid {
		return
	}
	isSame(t, name, looks(tube), before)
	isSame(t, name+": heard", results(tube.Rest(9)), results(same.Rest(9)))
}

func TestCheckChange(t *testing.T) {
	for area, valid := range bounds(1, api.MaxArea) {
		judgeChange(t, "the first area", valid, []int{area, 1000, 1000}, []int{1000, 1000})
		judgeChange(t, "the last area", valid, []int{1000, 1000, area}, []int{1000, 1000})
		judgeChange(t, "the first one of the branch", valid, []int{1000, 1000, 1000}, []int{area, 1000})
		judgeChange(t, "the last one of the branch", valid, []int{1000, 1000, 1000}, []int{1000, area})
	}
	judgeChange(t, "one less", false, []int{9, 9}, []int{9, 9})
	judgeChange(t, "one more", false, []int{9, 9, 9, 9}, []int{9, 9})
	judgeChange(t, "one less in the branch", false, []int{9, 9, 9}, []int{9})
	judgeChange(t, "one more in the branch", false, []int{9, 9, 9}, []int{9, 9, 9})
	judgeChange(t, "as many together", false, []int{9, 9, 9, 9}, []int{9})
	judgeChange(t, "no branch", false, []int{9, 9, 9}, nil)
	judgeChange(t, "nothing", false, nil, nil)
	tube := made(t, api.Shape{Areas: []int{1}})
	isSame(t, "a branch", tube.Change([]int{1}, []int{1}), api.ErrArg)
	isSame(t, "no branch", tube.Change([]int{1}, []int{}), api.OK)
}

func TestCheckFollow(t *testing.T) {
	for place, valid := range bounds(-1000000000, 1000000000) {
		judge(t, "place", orArg(valid), results(tract.Follow(place, 0, 1)))
		judge(t, "goal", orArg(valid), results(tract.Follow(0, place, 1)))
		judge(t, "both", orArg(valid), results(tract.Follow(place, place, 1000)))
	}
	for speed, valid := range bounds(1, 1000) {
		judge(t, "speed", orArg(valid), results(tract.Follow(0, 9, speed)))
		judge(t, "speed at the goal", orArg(valid), results(tract.Follow(9, 9, speed)))
	}
}

// judgeScore judges all calls with a score.
func judgeScore(t *testing.T, name string, valid bool, rest []int, gestures ...api.Gesture) {
	t.Helper()
	judge(t, name+": Areas", orArg(valid), results(tract.Areas(rest, gestures, 3)))
	judge(t, name+": no times", orArg(valid), results(tract.Areas(rest, gestures, 0)))
	judge(t, name+": Utter", orArg(valid), results(tract.Utter(api.Shape{Areas: rest}, gestures, []int{1}, nil, 0)))
	judge(t, name+": nothing to utter", orArg(valid), results(tract.Utter(api.Shape{Areas: rest}, gestures, nil, nil, 0)))
}

// gestureE is one that is right for at least three sections.
func gestureE() api.Gesture {
	return api.Gesture{First: 1, Last: 1, Start: 5, End: 9, Area: 7, Speed: 300}
}

func TestCheckScores(t *testing.T) {
	for n, valid := range map[int]bool{0: false, 1: true, api.MaxSections: true, api.MaxSections + 1: false} {
		judgeScore(t, "rest areas", valid, slices.Repeat([]int{5}, n))
	}
	rest := []int{5, 5, 5}
	for area, valid := range bounds(1, api.MaxArea) {
		judgeScore(t, "rest area", valid, []int{5, area})
		g := gestureE()
		g.Area = area
		judgeScore(t, "area", valid, rest, g)
		judgeScore(t, "area after another", valid, rest, gestureE(), g)
	}
	for n, valid := range map[int]bool{0: true, api.MaxGestures: true, api.MaxGestures + 1: false} {
		judgeScore(t, "gestures", valid, rest, slices.Repeat([]api.Gesture{gestureE()}, n)...)
	}
	for speed, valid := range bounds(1, 1000) {
		g := gestureE()
		g.Speed = speed
		judgeScore(t, "speed", valid, rest, g)
	}
}

func TestCheckGestures(t *testing.T) {
	rest := []int{5, 5, 5}
	for first, valid := range bounds(0, 1) {
		g := gestureE()
		g.First = first
		judgeScore(t, "the first section", valid, rest, g)
	}
	for last, valid := range bounds(1, 2) {
		g := gestureE()
		g.Last = last
		judgeScore(t, "the last section", valid, rest, g)
	}
	for start, valid := range bounds(0, 8) {
		g := gestureE()
		g.Start = start
		judgeScore(t, "start", valid, rest, g)
	}
	for end, valid := range bounds(6, api.MaxSteps) {
		g := gestureE()
		g.End = end
		judgeScore(t, "end", valid, rest, g)
	}
	g := gestureE()
	g.Start, g.End = api.MaxSteps, api.MaxSteps+1
	judgeScore(t, "behind all times", false, rest, g)
	g.Start, g.End = api.MaxSteps-1, api.MaxSteps
	judgeScore(t, "the last time", true, rest, g)
	g.Start, g.End = -2, -1
	judgeScore(t, "before all times", false, rest, g)
	g = gestureE()
	g.First, g.Last = 3, 3
	judgeScore(t, "behind all sections", false, rest, g)
	judgeScore(t, "the section of another tube", false, rest[:1], gestureE())
}

func TestCheckTimes(t *testing.T) {
	for _, c := range []struct {
		sections, times int
		want            api.Errno
	}{
		{1, least, api.ErrArg}, {1, -1, api.ErrArg}, {1, 0, api.OK},
		{1, api.MaxSteps, api.OK}, {1, api.MaxSteps + 1, api.ErrLong}, {1, greatest, api.ErrLong},
		{2, api.MaxSteps, api.OK}, {2, api.MaxSteps + 1, api.ErrLong},
		{3, 66666, api.OK}, {3, 66667, api.ErrLong},
		{api.MaxSections, 8333, api.OK}, {api.MaxSections, 8334, api.ErrLong}, {api.MaxSections, greatest, api.ErrLong},
	} {
		rest := slices.Repeat([]int{5}, c.sections)
		judge(t, "times", c.want, results(tract.Areas(rest, nil, c.times)))
		judge(t, "times of a wrong score", api.ErrArg, results(tract.Areas(append(rest, 0), nil, c.times)))
		judge(t, "times of a wrong gesture", api.ErrArg, results(tract.Areas(rest, []api.Gesture{{}}, c.times)))
		if c.times < 0 || c.times > 2*api.MaxSteps {
			continue
		}
		glottis := make([]int, c.times)
		judge(t, "steps", c.want, results(tract.Utter(api.Shape{Areas: rest}, nil, glottis, glottis, 0)))
		judge(t, "steps of a wrong place", api.ErrArg, results(tract.Utter(api.Shape{Areas: rest}, nil, glottis, nil, c.sections)))
		judge(t, "steps with too long a noise", api.ErrArg, results(tract.Utter(api.Shape{Areas: rest}, nil, glottis, append(glottis, 0), 0)))
	}
}

func TestCheckPulses(t *testing.T) {
	right := api.Glottal{Periods: 2, Length: 5, Open: 3, Height: 8}
	judgePulses := func(name string, want api.Errno, change func(g *api.Glottal)) {
		t.Helper()
		g := right
		change(&g)
		judge(t, name, want, results(tract.Pulses(g)))
		judge(t, name+", the second one", want, results(tract.Pulses(right, g)))
	}
	for n, valid := range bounds(1, 1000) {
		judgePulses("periods", orArg(valid), func(g *api.Glottal) { g.Periods = n })
	}
	for n, valid := range bounds(3, api.MaxPeriod) {
		judgePulses("length", orArg(valid), func(g *api.Glottal) { g.Length = n })
	}
	for n, valid := range bounds(1, api.MaxPeriod) {
		judgePulses("length of what is closed", orArg(valid), func(g *api.Glottal) { g.Length, g.Open = n, 0 })
	}
	for n, valid := range bounds(0, 5) {
		judgePulses("open", orArg(valid), func(g *api.Glottal) { g.Open = n })
	}
	for n, valid := range bounds(0, api.MaxFeed) {
		judgePulses("height", orArg(valid), func(g *api.Glottal) { g.Height = n })
	}
	for n, want := range map[int]api.Errno{0: api.OK, 200: api.OK, 201: api.ErrArg} {
		judge(t, "stretches", want, results(tract.Pulses(slices.Repeat([]api.Glottal{right}, n)...)))
	}
}

func TestCheckSamples(t *testing.T) {
	long := func(periods, length int) api.Glottal { return api.Glottal{Periods: periods, Length: length} }
	judge(t, "as many as may be", api.OK, results(tract.Pulses(long(1000, 100))))
	judge(t, "in two stretches", api.OK, results(tract.Pulses(long(50, 1999), long(50, 1))))
	judge(t, "one more", api.ErrLong, results(tract.Pulses(long(1000, 100), long(1, 1))))
	judge(t, "very many", api.ErrLong, results(tract.Pulses(slices.Repeat([]api.Glottal{long(1000, 2000)}, 200)...)))
	judge(t, "too many, and a wrong stretch", api.ErrArg, results(tract.Pulses(long(1000, 200), long(1, 0))))
	judge(t, "too many, and too many stretches", api.ErrArg, results(tract.Pulses(slices.Repeat([]api.Glottal{long(1000, 2000)}, 201)...)))
	for n, want := range map[int]api.Errno{least: api.ErrArg, -1: api.ErrArg, 0: api.OK, api.MaxSteps: api.OK, api.MaxSteps + 1: api.ErrLong, greatest: api.ErrLong} {
		judge(t, "noise", want, results(tract.Noise(0, 5, n)))
		judge(t, "noise of a wrong seed", api.ErrArg, results(tract.Noise(-1, 5, n)))
		judge(t, "noise of a wrong height", api.ErrArg, results(tract.Noise(0, -1, n)))
	}
	for seed, valid := range bounds(0, 1<<32-1) {
		judge(t, "seed", orArg(valid), results(tract.Noise(seed, 5, 3)))
	}
	for height, valid := range bounds(0, api.MaxFeed) {
		judge(t, "height", orArg(valid), results(tract.Noise(0, height, 3)))
	}
}

func TestCheckUtter(t *testing.T) {
	utter := func(glottis, noise []int, at int) []any {
		return results(tract.Utter(branched(), []api.Gesture{gestureE()}, glottis, noise, at))
	}
	for at, valid := range bounds(0, 2) {
		judge(t, "section", orArg(valid), utter([]int{1}, []int{2}, at))
		judge(t, "section of no noise", orArg(valid), utter([]int{1}, nil, at))
		judge(t, "section of nothing", orArg(valid), utter(nil, nil, at))
	}
	for sample, valid := range bounds(-api.MaxFeed, api.MaxFeed) {
		for _, at := range []int{0, 1} {
			judge(t, "glottis", orArg(valid), utter([]int{1, sample}, nil, at))
			judge(t, "glottis beside nothing", orArg(valid), utter([]int{1, sample}, []int{5, 0}, at))
			judge(t, "noise", orArg(valid), utter([]int{1, 0}, []int{1, sample}, at))
			judge(t, "both", api.ErrArg, utter([]int{1, 1}, []int{1, sample}, at))
			judge(t, "both", api.ErrArg, utter([]int{1, sample}, []int{1, -1}, at))
		}
	}
	for _, at := range []int{0, 1} {
		judge(t, "as much as may be", api.OK, utter([]int{300, -200}, []int{-200, -300}, at))
		judge(t, "too much", api.ErrArg, utter([]int{300, -200}, []int{-200, -301}, at))
		judge(t, "too much against each other", api.ErrArg, utter([]int{300}, []int{-201}, at))
		judge(t, "as long a noise", api.OK, utter([]int{1, 2}, []int{3, 4}, at))
		judge(t, "too long a noise", api.ErrArg, utter([]int{1, 2}, []int{3, 4, 0}, at))
		judge(t, "too long a noise for nothing", api.ErrArg, utter(nil, []int{0}, at))
	}
	judge(t, "a wrong sample of too many", api.ErrArg, utter(append(make([]int, api.MaxSteps), 501), nil, 0))
}
