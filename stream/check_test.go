package stream_test

import (
	"slices"
	"strings"
	"testing"

	"declaim/api"
	"declaim/stream"
)

// isLike checks that a speaker goes on as another one does.
func isLike(t *testing.T, name string, s, like *stream.Speaker) {
	t.Helper()
	isSame(t, name+": Clock", s.Clock(), like.Clock())
	isSame(t, name+": Waiting", s.Waiting(), like.Waiting())
	one, e := s.Queue(plain(7, 1))
	other, _ := like.Queue(plain(7, 1))
	isSame(t, name+": number", results(one, e), results(other, e))
	for _, effort := range []int{0, 3, 50} {
		s.Make(effort)
		like.Make(effort)
		isSame(t, name+": Pull", results(s.Pull(20)), results(like.Pull(20)))
	}
}

// busy returns a speaker that says a piece while others wait.
func busy(t *testing.T) *stream.Speaker {
	t.Helper()
	s := free(t, pieceP(), plain(5, 7, 8), pieceP(), plain(2, 9))
	pulled(t, s, 1)
	return s
}

// judgeSpeech judges all calls with a piece; with an error, nothing changes.
func judgeSpeech(t *testing.T, name string, valid bool, p api.Speech) {
	t.Helper()
	judge(t, name+": Paced", orArg(valid), results(stream.Paced(p, pace(1, 2))))
	s, other := busy(t), busy(t)
	judge(t, name+": Queue", orArg(valid), results(s.Queue(p)))
	judge(t, name+": Insert", orArg(valid), results(other.Insert(2, p)))
	if !valid {
		isError(t, name+": Insert before nothing", results(other.Insert(99, p)), api.ErrArg)
		isLike(t, name, s, busy(t))
		isLike(t, name, other, busy(t))
	}
}

func TestCheckPieces(t *testing.T) {
	for voice, valid := range bounds(1, api.MaxSpeaker) {
		p := pieceP()
		p.Voice = voice
		judgeSpeech(t, "voice", valid, p)
		p = pieceP()
		p.Use = voice
		judgeSpeech(t, "use", valid, p)
	}
	for effort, valid := range bounds(0, api.MaxEffort) {
		p := pieceP()
		p.Effort = effort
		judgeSpeech(t, "effort", valid, p)
	}
	for sample, valid := range bounds(-32768, 32767) {
		judgeSpeech(t, "the first sample", valid, plain(0, sample, 0, 0))
		judgeSpeech(t, "the last sample", valid, plain(0, 0, 0, sample))
	}
	for n, valid := range map[int]bool{0: true, 1: true, api.MaxSpoken: true, api.MaxSpoken + 1: false} {
		judgeSpeech(t, "samples", valid, plain(0, make([]int, n)...))
	}
}

func TestCheckPeriods(t *testing.T) {
	with := func(samples int, periods ...int) api.Speech {
		return api.Speech{Voice: 1, Use: 1, Samples: make([]int, samples), Periods: periods}
	}
	for begin, valid := range bounds(0, 9) {
		judgeSpeech(t, "one period", valid, with(10, begin))
	}
	for begin, valid := range bounds(4, 6) {
		judgeSpeech(t, "between others", valid, with(10, 3, begin, 7))
	}
	judgeSpeech(t, "twice the same", false, with(10, 3, 3))
	judgeSpeech(t, "decreasing", false, with(10, 3, 2))
	judgeSpeech(t, "all", true, with(3, 0, 1, 2))
	judgeSpeech(t, "at the end", false, with(3, 0, 1, 2, 3))
	judgeSpeech(t, "of nothing", false, with(0, 0))
	judgeSpeech(t, "before nothing", false, with(0, -1))
	for n, valid := range map[int]bool{1000: true, 1001: false} {
		var periods []int
		for i := range n {
			periods = append(periods, 2*i)
		}
		judgeSpeech(t, "periods", valid, with(3000, periods...))
	}
}

func TestCheckSigns(t *testing.T) {
	with := func(samples int, signs ...api.Sign) api.Speech {
		return api.Speech{Voice: 1, Use: 1, Samples: make([]int, samples), Signs: signs}
	}
	for at, valid := range bounds(0, 5) {
		judgeSpeech(t, "one sign", valid, with(5, sign(at, "a")))
	}
	for at, valid := range bounds(2, 4) {
		judgeSpeech(t, "between others", valid, with(5, sign(2, "a"), sign(at, "b"), sign(4, "c")))
	}
	for at, valid := range bounds(0, 0) {
		judgeSpeech(t, "of nothing", valid, with(0, sign(at, "a")))
	}
	for n, valid := range map[int]bool{api.MaxCues: true, api.MaxCues + 1: false} {
		judgeSpeech(t, "signs", valid, with(5, slices.Repeat([]api.Sign{sign(5, "a")}, n)...))
	}
	for n, valid := range map[int]bool{0: false, 1: true, 40: true, 41: false, 9999: false} {
		judgeSpeech(t, "a name", valid, with(5, sign(1, strings.Repeat("n", n))))
	}
	for c := range 256 {
		valid := 32 <= c && c <= 126
		letter := string([]byte{byte(c)})
		judgeSpeech(t, "a byte", valid, with(1, sign(0, letter)))
		judgeSpeech(t, "the last byte", valid, with(1, sign(0, "a"), sign(1, "bc"+letter)))
	}
}

func TestCheckPaces(t *testing.T) {
	for n, valid := range bounds(1, 8) {
		for _, p := range []api.Pace{pace(n, 1), pace(1, n), pace(8, n), pace(n, n)} {
			judge(t, "Paced", orArg(valid), results(stream.Paced(pieceP(), p)))
			s := busy(t)
			isSame(t, "Pace", s.Pace(p), orArg(valid))
			if !valid {
				isLike(t, "Pace", s, busy(t))
			}
		}
	}
	isSame(t, "no pace", busy(t).Pace(api.Pace{}), api.ErrArg)
}

// judgeGrant judges giving a grant; with an error, none is given.
func judgeGrant(t *testing.T, name string, valid bool, g api.Grant) {
	t.Helper()
	l := opened(t, all(1))
	judge(t, name, orArg(valid), results(l.Give(g)))
	isSame(t, name+": grants", len(usedOf(l)) == 2, valid)
}

func TestCheckGrants(t *testing.T) {
	right := api.Grant{Voice: 3, Use: 4, From: 5, Until: 9, Budget: 7}
	with := func(change func(g *api.Grant)) api.Grant {
		g := right
		change(&g)
		return g
	}
	for n, valid := range bounds(1, api.MaxSpeaker) {
		judgeGrant(t, "voice", valid, with(func(g *api.Grant) { g.Voice = n }))
	}
	for n, valid := range bounds(0, api.MaxSpeaker) {
		judgeGrant(t, "use", valid, with(func(g *api.Grant) { g.Use = n }))
	}
	for n, valid := range bounds(0, 9) {
		judgeGrant(t, "from", valid, with(func(g *api.Grant) { g.From = n }))
	}
	for n, valid := range bounds(5, api.MaxClock) {
		judgeGrant(t, "until", valid, with(func(g *api.Grant) { g.Until = n }))
	}
	for n, valid := range bounds(0, api.MaxClock) {
		judgeGrant(t, "from and until", valid, with(func(g *api.Grant) { g.From, g.Until = n, n }))
		judgeGrant(t, "budget", valid, with(func(g *api.Grant) { g.Budget = n }))
	}
	l := stream.Open()
	for i := range api.MaxGrants {
		isOK(t, "Give", results(l.Give(right)), i)
	}
	isError(t, "one too many", results(l.Give(right)), api.ErrLong)
	isError(t, "a wrong one too many", results(l.Give(api.Grant{})), api.ErrArg)
	isSame(t, "Withdraw", l.Withdraw(0), api.OK)
	isError(t, "one more in its place", results(l.Give(right)), api.ErrLong)
	isSame(t, "grants", len(usedOf(l)), api.MaxGrants)
}

func TestCheckNumbers(t *testing.T) {
	l := opened(t, all(1), all(2), all(3))
	isOK(t, "Take", results(l.Take(2, 1, 5, 0)), 1)
	for n, valid := range bounds(0, 2) {
		want := api.OK
		if !valid {
			want = api.ErrNone
		}
		judge(t, "Used", want, results(l.Used(n)))
		isSame(t, "Withdraw", l.Withdraw(n), want)
	}
	isSame(t, "used", usedOf(l), []int{0, 5, 0})
	empty := stream.Open()
	isError(t, "Used of no grants", results(empty.Used(0)), api.ErrNone)
	isSame(t, "Withdraw of no grants", empty.Withdraw(0), api.ErrNone)
}

// judgeAsk judges the calls that ask a ledger; with an error, nothing is taken.
func judgeAsk(t *testing.T, name string, want api.Errno, voice, use, n, at int) {
	t.Helper()
	l := opened(t, all(1))
	judge(t, name+": Take", want, results(l.Take(voice, use, n, at)))
	if want == api.ErrConsent {
		isOK(t, name+": May", results(l.May(voice, use, n, at)), false)
	} else {
		judge(t, name+": May", want, results(l.May(voice, use, n, at)))
	}
	if want != api.OK {
		isSame(t, name+": used", usedOf(l), []int{0})
	}
}

func TestCheckAsks(t *testing.T) {
	for n, valid := range bounds(1, api.MaxSpeaker) {
		judgeAsk(t, "use", orArg(valid), 1, n, 5, 5)
		want := orArg(valid)
		if valid && n != 1 {
			want = api.ErrConsent
		}
		judgeAsk(t, "voice", want, n, 1, 5, 5)
	}
	for n, valid := range bounds(0, api.MaxClock) {
		judgeAsk(t, "samples", orArg(valid), 1, 1, n, 5)
		want := orArg(valid)
		if n == api.MaxClock {
			want = api.ErrConsent
		}
		judgeAsk(t, "time", want, 1, 1, 5, n)
	}
	l := opened(t, api.Grant{Voice: 1, Until: 9, Budget: api.MaxClock})
	isOK(t, "all", results(l.Take(1, 1, api.MaxClock, 0)), 0)
	isOK(t, "nothing more", results(l.Take(1, 1, 0, 0)), 0)
	isError(t, "one more", results(l.Take(1, 1, 1, 0)), api.ErrConsent)
	isError(t, "all once more", results(l.Take(1, 1, api.MaxClock, 0)), api.ErrConsent)
}

func TestCheckQueues(t *testing.T) {
	s := free(t)
	for i := range api.MaxQueue {
		isOK(t, "Queue", results(s.Queue(plain(i%2))), i)
	}
	isError(t, "one too many", results(s.Queue(plain(0))), api.ErrLong)
	isError(t, "one too many before another", results(s.Insert(7, plain(0))), api.ErrLong)
	isError(t, "one too many before nothing", results(s.Insert(api.MaxQueue, plain(0))), api.ErrNone)
	isError(t, "a wrong one too many", results(s.Queue(api.Speech{})), api.ErrArg)
	isError(t, "a wrong one too many before nothing", results(s.Insert(-1, api.Speech{})), api.ErrArg)
	isSame(t, "Waiting", len(s.Waiting()), api.MaxQueue)
	isSame(t, "Drop", s.Drop(3), api.OK)
	isOK(t, "Insert", results(s.Insert(4, plain(0))), api.MaxQueue)
	isError(t, "one too many again", results(s.Queue(plain(0))), api.ErrLong)
	pulled(t, s, 1)
	isOK(t, "behind one that is said", results(s.Queue(plain(0))), api.MaxQueue+1)
}

func TestCheckPlaces(t *testing.T) {
	for n, valid := range bounds(1, 3) {
		s, want := busy(t), api.OK
		if !valid {
			want = api.ErrNone
		}
		judge(t, "Insert", want, results(s.Insert(n, plain(0))))
		other := busy(t)
		isSame(t, "Drop", other.Drop(n), want)
		if !valid {
			isLike(t, "Insert", s, busy(t))
			isLike(t, "Drop", other, busy(t))
		}
	}
}

func TestCheckEfforts(t *testing.T) {
	for effort, valid := range bounds(0, 1<<40) {
		s := busy(t)
		isSame(t, "Make", s.Make(effort), orArg(valid))
		if !valid {
			isLike(t, "Make", s, busy(t))
		}
	}
}

func TestCheckFades(t *testing.T) {
	for fade, valid := range bounds(0, api.MaxFade) {
		s := busy(t)
		isSame(t, "Stop", s.Stop(fade), orArg(valid))
		isSame(t, "Stop in silence", free(t).Stop(fade), orArg(valid))
		if !valid {
			isLike(t, "Stop", s, busy(t))
		}
	}
	s := free(t, plain(0, slices.Repeat([]int{20000}, 10002)...))
	pulled(t, s, 1)
	isSame(t, "Stop", s.Stop(api.MaxFade), api.OK)
	samples, said := pulled(t, s, 10002)
	isSame(t, "faded", []int{samples[0], samples[1], samples[5000], samples[9999]}, []int{19998, 19996, 9999, 1})
	isSame(t, "news", said, []api.News{news(api.NewsStopped, 10001, 0)})
}

func TestCheckPulls(t *testing.T) {
	for n, valid := range bounds(0, api.MaxPull) {
		s := busy(t)
		judge(t, "Pull", orArg(valid), results(s.Pull(n)))
		if !valid {
			isLike(t, "Pull", s, busy(t))
		}
	}
}

func TestCheckJobs(t *testing.T) {
	judgeJobs := func(name string, valid bool, power int, jobs ...api.Job) {
		t.Helper()
		judge(t, name+": Ready", orArg(valid), results(stream.Ready(power, jobs...)))
		judge(t, name+": InTime", orArg(valid), results(stream.InTime(power, jobs...)))
		if _, e := stream.Order(power, jobs...); valid && e == api.ErrNone {
			return
		}
		judge(t, name+": Order", orArg(valid), results(stream.Order(power, jobs...)))
	}
	for n, valid := range bounds(1, api.MaxEffort) {
		judgeJobs("power", valid, n, job(1, 1))
		judgeJobs("power for nothing", valid, n)
	}
	for n, valid := range bounds(0, api.MaxEffort) {
		judgeJobs("effort", valid, 1, job(n, 1))
		judgeJobs("effort behind another", valid, 1, job(1, 1), job(n, api.MaxClock))
	}
	for n, valid := range bounds(0, api.MaxClock) {
		judgeJobs("due", valid, 1, job(1, n))
		judgeJobs("due behind another", valid, 1, job(9, 1), job(0, n))
	}
	for n, valid := range map[int]bool{1000: true, 1001: false, 5000: false} {
		judgeJobs("jobs", valid, 1, slices.Repeat([]api.Job{job(0, 0)}, n)...)
	}
}

// TestNoLedger: no ledger, and one that was not opened.
func TestNoLedger(t *testing.T) {
	for name, l := range map[string]*stream.Ledger{"nil": nil, "zero": {}} {
		isError(t, name, results(l.Give(all(1))), api.ErrNil)
		isError(t, name, results(l.Give(api.Grant{})), api.ErrNil)
		isSame(t, name, []api.Errno{l.Withdraw(0), l.Withdraw(-1)}, []api.Errno{api.ErrNil, api.ErrNil})
		isError(t, name, results(l.May(1, 1, 0, 0)), api.ErrNil)
		isError(t, name, results(l.May(0, 0, -1, -1)), api.ErrNil)
		isError(t, name, results(l.Take(1, 1, 0, 0)), api.ErrNil)
		isError(t, name, results(l.Take(0, 0, -1, -1)), api.ErrNil)
		isError(t, name, results(l.Used(0)), api.ErrNil)
		isError(t, name, results(stream.New(l)), api.ErrNil)
	}
}

// TestNoSpeaker: no speaker, and one that was not made by New.
func TestNoSpeaker(t *testing.T) {
	for name, s := range map[string]*stream.Speaker{"nil": nil, "zero": {}} {
		isError(t, name, results(s.Queue(plain(0))), api.ErrNil)
		isError(t, name, results(s.Queue(api.Speech{})), api.ErrNil)
		isError(t, name, results(s.Insert(0, plain(0))), api.ErrNil)
		isError(t, name, results(s.Insert(-1, api.Speech{})), api.ErrNil)
		for i, e := range []api.Errno{s.Drop(0), s.Make(0), s.Make(-1), s.Pace(pace(1, 1)), s.Pace(pace(0, 0)), s.Stop(0), s.Stop(-1)} {
			if e != api.ErrNil {
				t.Errorf("%s: call %d: error %d", name, i, e)
			}
		}
		isError(t, name, results(s.Pull(0)), api.ErrNil)
		isError(t, name, results(s.Pull(-1)), api.ErrNil)
		isSame(t, name, len(s.Waiting())+s.Clock(), 0)
	}
}

// TestLostLedger: a speaker whose ledger was emptied says nothing.
func TestLostLedger(t *testing.T) {
	l := opened(t, all(1))
	s := made(t, l, plain(0, 1))
	*l = stream.Ledger{}
	isOK(t, "Pull", results(s.Pull(1)), []int{0}, []api.News{news(api.NewsRefused, 0, 0)})
}
