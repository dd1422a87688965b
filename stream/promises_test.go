package stream_test

import (
	"fmt"
	"math/rand/v2"
	"slices"
	"testing"

	"declaim/api"
	"declaim/stream"
)

// TestPacedSame: at the pace n / n samples and signs stay the same (P9.1).
func TestPacedSame(t *testing.T) {
	forRandom(500, func(r *rand.Rand) {
		p, n := randomSpeech(r, 30), fromTo(r, 1, 8)
		same := p
		same.Periods = nil
		isOK(t, "Paced", results(stream.Paced(p, pace(n, n))), same)
	})
}

// TestPeriodsSaid: of m periods, m Den / Num ones are said, rounded down; others are not changed (P9.1).
func TestPeriodsSaid(t *testing.T) {
	for num := 1; num <= 8; num++ {
		for den := 1; den <= 8; den++ {
			for m := range 40 {
				p := plain(0, 100)
				for i := range m {
					p.Samples, p.Periods = append(p.Samples, i), append(p.Periods, i+1)
				}
				paced, e := stream.Paced(p, pace(num, den))
				if e != api.OK || len(paced.Samples) != 1+m*den/num || !slices.IsSorted(paced.Samples[1:]) {
					t.Errorf("%d periods at %d / %d: %v, error %d", m, num, den, paced.Samples, e)
				}
			}
		}
	}
}

// TestBudgets: no grant has ever used up more than its budget; nothing is taken from one that was withdrawn (P9.2).
func TestBudgets(t *testing.T) {
	forRandom(300, func(r *rand.Rand) {
		grants := manyOf(fromTo(r, 1, 5), func() api.Grant { return randomGrant(r) })
		l := opened(t, grants...)
		withdrawn := map[int]int{} // what they had used up
		for range 80 {
			if isChance(r, 5) {
				i := r.IntN(len(grants))
				l.Withdraw(i)
				withdrawn[i] = usedOf(l)[i]
			}
			before, n := usedOf(l), r.IntN(12)
			at := r.IntN(60)
			i, e := l.Take(fromTo(r, 1, 3), fromTo(r, 1, 2), n, at)
			if e == api.OK {
				before[i] += n
				if at < grants[i].From || at >= grants[i].Until {
					t.Errorf("taken from %+v at %d", grants[i], at)
				}
			}
			isSame(t, "used", usedOf(l), before)
			for i, used := range before {
				if was, ok := withdrawn[i]; used > grants[i].Budget || ok && used != was {
					t.Errorf("used up %d of %+v", used, grants[i])
				}
			}
		}
	})
}

// An event is something that is done at a clock.
type event struct {
	clock int
	do    func(s *stream.Speaker, l *stream.Ledger) api.Errno
}

// randomEvent changes a speaker or its ledger, and returns what it answers.
func randomEvent(r *rand.Rand) func(s *stream.Speaker, l *stream.Ledger) api.Errno {
	piece, number, pace, grant := randomSpeech(r, 20), r.IntN(9), randomPace(r), randomGrant(r)
	return someOf(r,
		func(s *stream.Speaker, _ *stream.Ledger) api.Errno { return queues(piece)(s) },
		func(s *stream.Speaker, _ *stream.Ledger) api.Errno { return queues(piece)(s) },
		func(s *stream.Speaker, _ *stream.Ledger) api.Errno { return inserts(number, piece)(s) },
		func(s *stream.Speaker, _ *stream.Ledger) api.Errno { return s.Drop(number) },
		func(s *stream.Speaker, _ *stream.Ledger) api.Errno { return s.Make(3 * number) },
		func(s *stream.Speaker, _ *stream.Ledger) api.Errno { return s.Pace(pace) },
		func(s *stream.Speaker, _ *stream.Ledger) api.Errno { return s.Stop(number) },
		func(_ *stream.Speaker, l *stream.Ledger) api.Errno { return l.Withdraw(number) },
		func(_ *stream.Speaker, l *stream.Ledger) api.Errno { _, e := l.Give(grant); return e },
	)
}

func randomEvents(r *rand.Rand, last int) []event {
	events := manyOf(r.IntN(50), func() event { return event{r.IntN(last), randomEvent(r)} })
	slices.SortStableFunc(events, func(a, b event) int { return a.clock - b.clock })
	return events
}

// replayed lets events happen at their clocks, and returns what is heard up to another clock, asked for in portions.
func replayed(t *testing.T, events []event, last int, portion func() int) ([]int, []api.News, string) {
	t.Helper()
	l := opened(t, all(1), all(2))
	s := made(t, l)
	var samples []int
	var told []api.News
	var answers []api.Errno
	until := func(clock int) {
		for s.Clock() < clock {
			heard, news := pulled(t, s, min(portion(), clock-s.Clock()))
			samples, told = append(samples, heard...), append(told, news...)
		}
	}
	for _, e := range events {
		until(e.clock)
		answers = append(answers, e.do(s, l))
	}
	until(last)
	return samples, told, fmt.Sprint(answers, s.Waiting(), usedOf(l))
}

// TestPortions: the portions in which samples are asked for do not matter (P9.4).
func TestPortions(t *testing.T) {
	forRandom(1000, func(r *rand.Rand) {
		events := randomEvents(r, 150)
		samples, told, rest := replayed(t, events, 200, func() int { return 1 })
		isSame(t, "at once", results(replayed(t, events, 200, func() int { return 200 })), results(samples, told, rest))
		isSame(t, "in portions", results(replayed(t, events, 200, func() int { return r.IntN(9) })), results(samples, told, rest))
	})
}

// TestSignsAtClocks: signs come at exactly the clocks that the samples before them say (P9.4).
func TestSignsAtClocks(t *testing.T) {
	forRandom(500, func(r *rand.Rand) {
		s, at := free(t), randomPace(r)
		isSame(t, "Pace", s.Pace(at), api.OK)
		var samples []int
		var want []api.News
		for i := range r.IntN(8) {
			p := randomSpeech(r, 20)
			p.Voice, p.Effort = 1, 0
			isOK(t, "Queue", results(s.Queue(p)), i)
			paced, _ := stream.Paced(p, at)
			want = append(want, news(api.NewsBegin, len(samples), i))
			for _, sign := range paced.Signs {
				want = append(want, signNews(len(samples)+sign.At, i, sign.Name))
			}
			samples = append(samples, paced.Samples...)
			want = append(want, news(api.NewsEnd, len(samples), i))
		}
		isOK(t, "Pull", results(s.Pull(len(samples)+1)), append(samples, 0), want)
	})
}

// firstGrant returns the first grant that permits a piece at a time, when all of them have used up so much; -1: there is none.
func firstGrant(grants []api.Grant, used []int, p api.Speech, at int) int {
	for i, g := range grants {
		if g.Voice == p.Voice && (g.Use == 0 || g.Use == p.Use) && g.From <= at && at < g.Until && used[i]+len(p.Samples) <= g.Budget {
			return i
		}
	}
	return -1
}

// TestConsented: all that is heard was taken when its piece began, from a grant that permitted it then (P9.5).
func TestConsented(t *testing.T) {
	begun, refused := 0, 0
	forRandom(500, func(r *rand.Rand) {
		grants := manyOf(r.IntN(4), func() api.Grant { return randomGrant(r) })
		l := opened(t, grants...)
		s := made(t, l)
		var pieces []api.Speech
		for i := range 6 {
			p := randomSpeech(r, 12)
			p.Effort, p.Periods, p.Signs = 0, nil, nil
			p.Samples = slices.Repeat([]int{i + 1}, len(p.Samples)) // which tell the piece
			pieces = append(pieces, p)
			isOK(t, "Queue", results(s.Queue(p)), i)
		}
		taken := make([]int, len(pieces)+1) // by pieces, and not heard yet
		for range 80 {
			used := usedOf(l)
			heard, told := pulled(t, s, 1)
			for _, n := range told {
				if n.Kind == api.NewsEnd {
					continue
				}
				p := pieces[n.Piece]
				grant := firstGrant(grants, used, p, n.At)
				isSame(t, "permitted", grant >= 0, n.Kind == api.NewsBegin)
				if grant < 0 {
					refused++
					continue
				}
				begun++
				used[grant] += len(p.Samples)
				taken[n.Piece+1] = len(p.Samples)
			}
			isSame(t, "used", usedOf(l), used)
			if heard[0] != 0 {
				taken[heard[0]]--
			}
			if slices.Min(taken) < 0 {
				t.Fatalf("not taken: %v", taken)
			}
		}
		isSame(t, "taken and not heard", slices.Max(taken), 0)
	})
	if begun < 300 || refused < 300 {
		t.Errorf("only %d begun and %d refused", begun, refused)
	}
}

// TestNeverPermitted: a piece whose voice nobody has permitted is never heard (P9.5).
func TestNeverPermitted(t *testing.T) {
	forRandom(300, func(r *rand.Rand) {
		s := made(t, opened(t, all(5), api.Grant{Voice: 6, Use: 1, Until: api.MaxClock, Budget: api.MaxClock}))
		silent := 0
		for i := range 20 {
			p := randomSpeech(r, 9)
			p.Samples, p.Effort = slices.Repeat([]int{1}, len(p.Samples)), 0
			p.Voice = someOf(r, 4, 5, 6, 7)
			if p.Voice == 5 || p.Voice == 6 && p.Use == 1 {
				continue
			}
			isOK(t, "Queue", results(s.Queue(p)), silent)
			silent++
			samples, told := pulled(t, s, fromTo(r, 1, 5))
			isSame(t, "samples", samples, make([]int, len(samples)))
			isSame(t, fmt.Sprint("news of ", i), told, []api.News{news(api.NewsRefused, s.Clock()-len(samples), silent-1)})
		}
	})
}

// permuted calls something with each order of numbers.
func permuted(n int, call func(order []int)) {
	var put func(order []int)
	put = func(order []int) {
		if len(order) == n {
			call(order)
		}
		for i := range n {
			if !slices.Contains(order, i) {
				put(append(order, i))
			}
		}
	}
	put(nil)
}

// TestBestOrder: if any order of jobs is in time, the one of Order is (P9.6).
func TestBestOrder(t *testing.T) {
	found, none := 0, 0
	forRandom(1500, func(r *rand.Rand) {
		power, jobs := randomJobs(r)
		jobs = jobs[:min(len(jobs), 5)]
		reordered := func(order []int) []api.Job {
			var all []api.Job
			for _, i := range order {
				all = append(all, jobs[i])
			}
			return all
		}
		possible := false
		permuted(len(jobs), func(order []int) { possible = possible || modelInTime(power, reordered(order)) })
		order, e := stream.Order(power, jobs...)
		if !possible {
			isError(t, "Order", results(order, e), api.ErrNone)
			none++
			return
		}
		found++
		isOK(t, "InTime", results(stream.InTime(power, reordered(order)...)), true)
		for i := range max(len(order), 1) - 1 {
			a, b := order[i], order[i+1]
			if jobs[a].Due > jobs[b].Due || jobs[a].Due == jobs[b].Due && a > b {
				t.Errorf("%v is the order of %v", order, jobs)
			}
		}
		isSame(t, "each once", len(slices.Compact(slices.Sorted(slices.Values(order)))), len(jobs))
	})
	if found < 300 || none < 300 {
		t.Errorf("only %d found and %d without one", found, none)
	}
}

// TestMadeInTime: if pieces are made at the latest when they are needed, what is heard is the same as if they had been made before (P9.6).
func TestMadeInTime(t *testing.T) {
	forRandom(500, func(r *rand.Rand) {
		pieces := manyOf(fromTo(r, 1, 6), func() api.Speech { return randomSpeech(r, 12) })
		for i := range pieces {
			pieces[i].Voice = fromTo(r, 1, 2)
		}
		ready, late := free(t, pieces...), free(t, pieces...)
		isSame(t, "Make", ready.Make(1<<40), api.OK)
		samples, told := pulled(t, ready, 90)
		needed := map[int][]int{} // efforts that must be there at clocks
		for _, n := range told {
			if n.Kind == api.NewsBegin {
				needed[n.At] = append(needed[n.At], pieces[n.Piece].Effort)
			}
		}
		var heard []int
		var news []api.News
		for clock := range 90 {
			for _, effort := range needed[clock] {
				isSame(t, "Make", late.Make(effort), api.OK)
			}
			one, some := pulled(t, late, 1)
			heard, news = append(heard, one...), append(news, some...)
		}
		isSame(t, "heard", results(heard, news), results(samples, told))
	})
}

// TestSilence: a speaker without pieces is silent, without news (P9.7).
func TestSilence(t *testing.T) {
	for _, s := range []*stream.Speaker{free(t), made(t, opened(t))} {
		for _, n := range []int{0, 1, 1000, api.MaxPull} {
			isOK(t, "Pull", results(s.Pull(n)), make([]int, n), []api.News{})
			isSame(t, "calls", []api.Errno{s.Make(5), s.Stop(5), s.Pace(pace(1, 8))}, []api.Errno{0, 0, 0})
		}
		isSame(t, "Clock", s.Clock(), 1001+api.MaxPull)
	}
}

// TestDropped: dropping a piece that waits does not change the samples that are heard before it would have begun (P9.7).
func TestDropped(t *testing.T) {
	forRandom(500, func(r *rand.Rand) {
		pieces := manyOf(fromTo(r, 1, 6), func() api.Speech {
			p := randomSpeech(r, 12)
			p.Effort = 0
			return p
		})
		whole, less := free(t, pieces...), free(t, pieces...)
		piece, at := r.IntN(len(pieces)), r.IntN(20)
		before, _ := pulled(t, less, at)
		dropped := less.Drop(piece) == api.OK
		behind, _ := pulled(t, less, 90-at)
		samples, told := pulled(t, whole, 90)
		until := 90
		for _, n := range told {
			if dropped && n.Piece == piece && (n.Kind == api.NewsBegin || n.Kind == api.NewsRefused) {
				until = n.At
			}
		}
		isSame(t, "heard", slices.Concat(before, behind)[:until], samples[:until])
	})
}

// TestNeverLouder: a fade never makes a sample louder, and never gives it another sign (P9.7).
func TestNeverLouder(t *testing.T) {
	forRandom(500, func(r *rand.Rand) {
		p := randomSpeech(r, 40)
		p.Voice, p.Effort = 1, 0
		whole, faded := free(t, p), free(t, p)
		for range 12 {
			n := r.IntN(6)
			samples, _ := pulled(t, whole, n)
			softer, _ := pulled(t, faded, n)
			for i, sample := range samples {
				if low, high := min(sample, 0), max(sample, 0); softer[i] < low || softer[i] > high {
					t.Errorf("%d becomes %d", sample, softer[i])
				}
			}
			isSame(t, "Stop", faded.Stop(fromTo(r, 0, 30)), api.OK)
		}
	})
}

// TestMemory: no argument is changed or kept, and results share no memory with arguments or each other.
func TestMemory(t *testing.T) {
	p, jobs := pieceP(), []api.Job{job(5, 9), job(2, 2)}
	p.Samples, p.Periods, p.Signs = slices.Grow(p.Samples, 9), slices.Grow(p.Periods, 9), slices.Grow(p.Signs, 9)
	arguments := func() string { return fmt.Sprint(p, jobs) }
	before := arguments()
	var lists [][]int
	var told [][]api.News
	var paced api.Speech
	once := func() string {
		s := free(t, p, p)
		waiting, again := s.Waiting(), s.Waiting()
		one, some := pulled(t, s, 3)
		s.Stop(2)
		other, more := pulled(t, s, 12)
		paced, _ = stream.Paced(p, pace(1, 1))
		ready, _ := stream.Ready(1, jobs...)
		order, _ := stream.Order(1, jobs...)
		lists, told = [][]int{waiting, again, one, other, paced.Samples, ready, order}, [][]api.News{some, more}
		return fmt.Sprint(lists, told, paced)
	}
	want := once()
	for _, list := range lists {
		for i := range list {
			list[i] = -1000
		}
		_ = append(list, -2000)
	}
	for _, list := range told {
		clear(list)
		_ = append(list, api.News{})
	}
	clear(paced.Signs)
	for _, list := range lists {
		if slices.Max(list) > -1000 || slices.Min(list) < -1000 {
			t.Errorf("shared: %v", list)
		}
	}
	isSame(t, "arguments", arguments(), before)
	isSame(t, "results", once(), want)
}

// TestOwnMemory: a speaker keeps nothing of its arguments, and gives nothing away.
func TestOwnMemory(t *testing.T) {
	p := pieceP()
	s, same := free(t, p), free(t, pieceP())
	isSame(t, "Insert", []api.Errno{inserts(0, p)(s), inserts(0, pieceP())(same)}, []api.Errno{0, 0})
	p.Samples[3], p.Periods[1], p.Signs[0] = 99, 3, sign(0, "y")
	s.Waiting()[0] = 99
	isSame(t, "Pace", []api.Errno{s.Pace(pace(1, 2)), same.Pace(pace(1, 2))}, []api.Errno{0, 0})
	for n := range 9 {
		samples, news, _ := s.Pull(n)
		other, others, _ := same.Pull(n)
		isSame(t, "Pull", results(samples, news), results(other, others))
		clear(samples)
		clear(news)
		_ = append(samples, 99)
		_ = append(news, api.News{})
		if n == 3 {
			isSame(t, "Stop", []api.Errno{s.Stop(1), same.Stop(1)}, []api.Errno{0, 0})
		}
	}
	isLike(t, "at the end", s, same)
}

// TestLimits: as much as may be.
func TestLimits(t *testing.T) {
	long := api.Speech{Voice: 1, Use: 1, Samples: slices.Repeat([]int{-32768, 32767}, api.MaxSpoken/2)}
	for i := range 1000 {
		long.Periods = append(long.Periods, i)
	}
	long.Signs = slices.Repeat([]api.Sign{sign(api.MaxSpoken, "end")}, api.MaxCues)
	length := api.MaxSpoken * 8
	paced, e := stream.Paced(long, pace(1, 8))
	isOK(t, "Paced", results(len(paced.Samples), paced.Signs[49].At, e), length, length)

	l := opened(t, slices.Repeat([]api.Grant{{Voice: 1, Until: api.MaxClock, Budget: length - 1}}, api.MaxGrants-1)...)
	isOK(t, "Give", results(l.Give(all(1))), api.MaxGrants-1)
	s := made(t, l, slices.Repeat([]api.Speech{long}, api.MaxQueue)...)
	isSame(t, "Pace", s.Pace(pace(1, 8)), api.OK)
	var told []api.News
	for range 4 {
		_, some := pulled(t, s, api.MaxPull)
		told = append(told, some...)
	}
	isSame(t, "news", results(len(told), told[51], told[52]), results(53, news(api.NewsEnd, length, 0), news(api.NewsBegin, length, 1)))
	isSame(t, "used", usedOf(l)[api.MaxGrants-1], 2*length)

	s = made(t, opened(t), slices.Repeat([]api.Speech{long}, api.MaxQueue)...)
	_, told = pulled(t, s, 1)
	isSame(t, "refused", len(told), api.MaxQueue)
}

// TestAnyValue: every function returns for all arguments, with zero values if there is an error.
func TestAnyValue(t *testing.T) {
	right := 0
	forRandom(3000, func(r *rand.Rand) {
		number := func() int {
			if isChance(r, 90) {
				return r.IntN(5)
			}
			return someOf(r, int(r.Uint64()), least, -1, 8, 9, api.MaxSpeaker, api.MaxSpeaker+1, api.MaxFade, api.MaxPull, api.MaxEffort, api.MaxClock, api.MaxClock+1, 1<<31, greatest)
		}
		list := func() []int { return manyOf(r.IntN(5), number) }
		anyPace := func() api.Pace { return api.Pace{Num: number(), Den: number()} }
		anyPiece := func() api.Speech {
			p := api.Speech{Voice: number(), Use: number(), Samples: list(), Effort: number()}
			if isChance(r, 30) {
				p.Periods, p.Signs = list(), []api.Sign{sign(number(), someOf(r, "a", "", "\n")), sign(number(), "b")}
			}
			return p
		}
		jobs := manyOf(r.IntN(4), func() api.Job { return job(number(), number()) })
		l := stream.Open()
		s := made(t, l)
		for range 10 {
			for i, got := range [][]any{
				results(stream.Paced(anyPiece(), anyPace())),
				results(l.Give(api.Grant{Voice: number(), Use: number(), From: number(), Until: number(), Budget: number()})),
				results(l.May(number(), number(), number(), number())),
				results(l.Take(number(), number(), number(), number())),
				results(l.Used(number())),
				results(l.Withdraw(number())),
				results(s.Queue(anyPiece())),
				results(s.Insert(number(), anyPiece())),
				results(s.Drop(number())),
				results(s.Make(number())),
				results(s.Pace(anyPace())),
				results(s.Stop(number())),
				results(s.Pull(min(number(), api.MaxPull+1) % 1000)),
				results(stream.Ready(number(), jobs...)),
				results(stream.InTime(number(), jobs...)),
				results(stream.Order(number(), jobs...)),
			} {
				if e := got[len(got)-1].(api.Errno); e != api.OK {
					isError(t, fmt.Sprint("call ", i), got, e)
				} else {
					right++
				}
			}
		}
	})
	if right < 150000 {
		t.Errorf("only %d without an error", right)
	}
}
