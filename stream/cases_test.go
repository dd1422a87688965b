package stream_test

import (
	"slices"
	"testing"

	"declaim/api"
	"declaim/stream"
)

func TestPaces(t *testing.T) {
	samples := []int{9, 1, 2, 3, 4, 5, 6}
	periods := []int{1, 3, 4}
	signs := []api.Sign{sign(0, "a"), sign(1, "b"), sign(2, "c"), sign(3, "d"), sign(4, "e"), sign(6, "f"), sign(7, "g")}
	for _, c := range []struct {
		num, den int
		samples  []int
		at       []int // of the signs
	}{
		{1, 1, samples, []int{0, 1, 2, 3, 4, 6, 7}},
		{5, 5, samples, []int{0, 1, 2, 3, 4, 6, 7}},
		{2, 1, []int{9, 3}, []int{0, 1, 1, 1, 2, 2, 2}},
		{3, 1, []int{9, 4, 5, 6}, []int{0, 1, 1, 1, 1, 3, 4}},
		{4, 1, []int{9}, []int{0, 1, 1, 1, 1, 1, 1}},
		{3, 2, []int{9, 3, 4, 5, 6}, []int{0, 1, 1, 1, 2, 4, 5}},
		{1, 2, []int{9, 1, 2, 1, 2, 3, 3, 4, 5, 6, 4, 5, 6}, []int{0, 1, 2, 5, 7, 9, 13}},
		{2, 3, []int{9, 1, 2, 3, 3, 4, 5, 6}, []int{0, 1, 2, 3, 5, 7, 8}},
	} {
		want := api.Speech{Voice: 5, Use: 7, Samples: c.samples, Effort: 11}
		for i, at := range c.at {
			want.Signs = append(want.Signs, sign(at, signs[i].Name))
		}
		isOK(t, "Paced", results(stream.Paced(api.Speech{Voice: 5, Use: 7, Samples: samples, Periods: periods, Signs: signs, Effort: 11}, pace(c.num, c.den))), want)
	}
	isOK(t, "no periods", results(stream.Paced(plain(0, 1, 2, 3), pace(8, 1))), plain(0, 1, 2, 3))
	silent := api.Speech{Voice: 1, Use: 1, Signs: []api.Sign{sign(0, "a"), sign(0, "b")}}
	isOK(t, "no samples", results(stream.Paced(silent, pace(1, 8))), silent)
}

func TestGrants(t *testing.T) {
	l := opened(t,
		api.Grant{Voice: 1, Use: 2, From: 10, Until: 20, Budget: 5},
		api.Grant{Voice: 1, Use: 0, From: 15, Until: 15, Budget: 100},
		api.Grant{Voice: 1, Use: 0, From: 0, Until: 30, Budget: 6},
		api.Grant{Voice: 2, Use: 2, From: 0, Until: api.MaxClock, Budget: 0},
	)
	isOK(t, "before the first one", results(l.Take(1, 2, 1, 9)), 2)
	isOK(t, "the first one", results(l.Take(1, 2, 3, 10)), 0)
	isOK(t, "another use", results(l.Take(1, 3, 1, 10)), 2)
	isOK(t, "more than the first one has", results(l.Take(1, 2, 3, 19)), 2)
	isOK(t, "what the first one has", results(l.Take(1, 2, 2, 19)), 0)
	isSame(t, "used", usedOf(l), []int{5, 0, 5, 0})
	isOK(t, "nothing, of the first one", results(l.Take(1, 2, 0, 19)), 0)
	isOK(t, "behind the first one", results(l.Take(1, 2, 0, 20)), 2)
	isError(t, "together", results(l.Take(1, 3, 2, 19)), api.ErrConsent)
	isError(t, "behind all", results(l.Take(1, 2, 1, 30)), api.ErrConsent)
	isOK(t, "nothing of nothing", results(l.Take(2, 2, 0, api.MaxClock-1)), 3)
	isError(t, "the last time", results(l.Take(2, 2, 0, api.MaxClock)), api.ErrConsent)
	isError(t, "a use that nobody has permitted", results(l.Take(2, 1, 0, 0)), api.ErrConsent)
	isSame(t, "Withdraw", l.Withdraw(0), api.OK)
	isSame(t, "Withdraw again", l.Withdraw(0), api.ErrState)
	isOK(t, "May", results(l.May(1, 2, 0, 19)), true)
	isOK(t, "Take from the next one", results(l.Take(1, 2, 1, 19)), 2)
	isSame(t, "Withdraw", l.Withdraw(2), api.OK)
	isOK(t, "May", results(l.May(1, 2, 0, 19)), false)
	isError(t, "Take", results(l.Take(1, 2, 0, 19)), api.ErrConsent)
	isSame(t, "used", usedOf(l), []int{5, 0, 6, 0})
}

// aPull is what is pulled after something was done.
type aPull struct {
	name    string
	do      func(s *stream.Speaker) api.Errno
	samples []int
	news    []api.News
}

// judgePulls pulls from a speaker.
func judgePulls(t *testing.T, s *stream.Speaker, pulls ...aPull) {
	t.Helper()
	for _, p := range pulls {
		if p.do != nil {
			isSame(t, p.name, p.do(s), api.OK)
		}
		isOK(t, p.name, results(s.Pull(len(p.samples))), p.samples, p.news)
	}
}

func makes(effort int) func(s *stream.Speaker) api.Errno {
	return func(s *stream.Speaker) api.Errno { return s.Make(effort) }
}

func stops(fade int) func(s *stream.Speaker) api.Errno {
	return func(s *stream.Speaker) api.Errno { return s.Stop(fade) }
}

func paces(num, den int) func(s *stream.Speaker) api.Errno {
	return func(s *stream.Speaker) api.Errno { return s.Pace(pace(num, den)) }
}

func drops(piece int) func(s *stream.Speaker) api.Errno {
	return func(s *stream.Speaker) api.Errno { return s.Drop(piece) }
}

func queues(p api.Speech) func(s *stream.Speaker) api.Errno {
	return func(s *stream.Speaker) api.Errno {
		_, e := s.Queue(p)
		return e
	}
}

func inserts(before int, p api.Speech) func(s *stream.Speaker) api.Errno {
	return func(s *stream.Speaker) api.Errno {
		_, e := s.Insert(before, p)
		return e
	}
}

// TestAtSample: news of an end and of a beginning come when the next sample is asked for.
func TestAtSample(t *testing.T) {
	p := plain(0, 7)
	p.Signs = []api.Sign{sign(0, "a"), sign(0, "b"), sign(1, "c"), sign(1, "d")}
	judgePulls(t, free(t, p, plain(0), p),
		aPull{name: "nothing"},
		aPull{"the first one", nil, []int{7}, []api.News{news(api.NewsBegin, 0, 0), signNews(0, 0, "a"), signNews(0, 0, "b")}},
		aPull{name: "nothing again"},
		aPull{"one that is empty, and the next one", nil, []int{7}, []api.News{
			signNews(1, 0, "c"), signNews(1, 0, "d"), news(api.NewsEnd, 1, 0),
			news(api.NewsBegin, 1, 1), news(api.NewsEnd, 1, 1),
			news(api.NewsBegin, 1, 2), signNews(1, 2, "a"), signNews(1, 2, "b"),
		}},
		aPull{name: "nothing at the end"},
		aPull{"the end", nil, []int{0, 0}, []api.News{signNews(2, 2, "c"), signNews(2, 2, "d"), news(api.NewsEnd, 2, 2)}},
	)
}

func TestLate(t *testing.T) {
	judgePulls(t, free(t, plain(5, 1), plain(2, 2), plain(0, 3)),
		aPull{"late", nil, []int{0}, []api.News{news(api.NewsLate, 0, 0)}},
		aPull{"still late", makes(4), []int{0}, nil},
		aPull{"nothing given", makes(0), []int{0}, nil},
		aPull{"on time, and late again", makes(2), []int{1, 0}, []api.News{news(api.NewsBegin, 3, 0), news(api.NewsEnd, 4, 0), news(api.NewsLate, 4, 1)}},
		aPull{"another one before it", inserts(1, plain(9, 4)), []int{0}, nil},
		aPull{"that is dropped", drops(3), []int{0}, nil},
		aPull{"one that is said", makes(1), []int{2, 3, 0}, []api.News{
			news(api.NewsBegin, 7, 1), news(api.NewsEnd, 8, 1), news(api.NewsBegin, 8, 2), news(api.NewsEnd, 9, 2),
		}},
		aPull{"late after silence", queues(plain(1, 5)), []int{0}, []api.News{news(api.NewsLate, 10, 4)}},
		aPull{"without a queue", drops(4), []int{0}, nil},
		aPull{"late once more", queues(plain(1, 6)), []int{0, 0}, []api.News{news(api.NewsLate, 12, 5)}},
		aPull{"lost effort", makes(100), []int{6}, []api.News{news(api.NewsBegin, 14, 5)}},
		aPull{"is lost", queues(plain(1, 7)), []int{0}, []api.News{news(api.NewsEnd, 15, 5), news(api.NewsLate, 15, 6)}},
	)
	judgePulls(t, free(t, plain(1, 1)),
		aPull{"late", nil, []int{0}, []api.News{news(api.NewsLate, 0, 0)}},
		aPull{"an empty one makes no sample", inserts(0, plain(0)), []int{0}, []api.News{news(api.NewsBegin, 1, 1), news(api.NewsEnd, 1, 1)}},
	)
}

// TestMade: effort goes to the pieces of the queue, from the first one on, and stays with them.
func TestMade(t *testing.T) {
	judgePulls(t, free(t, plain(3, 1), plain(3, 2), plain(3, 3)),
		aPull{"the first one, and some of the second one", makes(5), []int{1}, []api.News{news(api.NewsBegin, 0, 0)}},
		aPull{"one before it gets the next", inserts(1, plain(4, 4)), []int{0}, []api.News{news(api.NewsEnd, 1, 0), news(api.NewsLate, 1, 3)}},
		aPull{"it is made, and so is what has waited", makes(5), []int{4, 2, 0}, []api.News{
			news(api.NewsBegin, 2, 3), news(api.NewsEnd, 3, 3), news(api.NewsBegin, 3, 1), news(api.NewsEnd, 4, 1), news(api.NewsLate, 4, 2),
		}},
	)
	judgePulls(t, free(t, plain(9, 1), plain(2, 2)),
		aPull{"to the first one", makes(8), []int{0}, []api.News{news(api.NewsLate, 0, 0)}},
		aPull{"effort goes with it", drops(0), []int{0}, nil},
		aPull{"the second one", makes(2), []int{2}, []api.News{news(api.NewsBegin, 2, 1)}},
	)
	judgePulls(t, free(t, plain(1, 1), plain(0, 2)), aPull{"a made one waits, too", nil, []int{0, 0}, []api.News{news(api.NewsLate, 0, 0)}})
	judgePulls(t, free(t, plain(api.MaxEffort, 1), plain(api.MaxEffort, 2)), aPull{"much", makes(2 * api.MaxEffort), []int{1, 2}, []api.News{
		news(api.NewsBegin, 0, 0), news(api.NewsEnd, 1, 0), news(api.NewsBegin, 1, 1),
	}})
}

func TestPlaces(t *testing.T) {
	s := free(t, plain(0, 1), plain(0, 2), plain(0, 3))
	isOK(t, "Insert", results(s.Insert(1, plain(0, 4))), 3)
	isOK(t, "Insert", results(s.Insert(0, plain(0, 5))), 4)
	isSame(t, "Waiting", s.Waiting(), []int{4, 0, 3, 1, 2})
	isSame(t, "Drop", []api.Errno{s.Drop(2), s.Drop(4), s.Drop(4)}, []api.Errno{0, 0, api.ErrNone})
	isOK(t, "Queue", results(s.Queue(plain(0, 6))), 5)
	isSame(t, "Waiting", s.Waiting(), []int{0, 3, 1, 5})
	pulled(t, s, 1)
	isSame(t, "Waiting", s.Waiting(), []int{3, 1, 5})
	isSame(t, "one that is said", s.Drop(0), api.ErrNone)
	isError(t, "before one that is said", results(s.Insert(0, plain(0))), api.ErrNone)
	isSame(t, "Drop", []api.Errno{s.Drop(3), s.Drop(5), s.Drop(1)}, []api.Errno{0, 0, 0})
	isSame(t, "Waiting", len(s.Waiting()), 0)
	isOK(t, "Queue", results(s.Queue(plain(0, 7))), 6)
	samples, _ := pulled(t, s, 2)
	isSame(t, "samples", samples, []int{7, 0})
}

// TestPaceOfBeginning: a piece is said at the pace that is chosen when it begins.
func TestPaceOfBeginning(t *testing.T) {
	judgePulls(t, free(t, pieceP(), pieceP(), pieceP()),
		aPull{"slow", paces(1, 2), []int{1, 2, 1}, []api.News{news(api.NewsBegin, 0, 0)}},
		aPull{"fast from the next one on", paces(2, 1), []int{2, 3, 4, 3, 4, 5, 6, 5, 6, 3}, []api.News{
			signNews(4, 0, "x"), news(api.NewsEnd, 12, 0), news(api.NewsBegin, 12, 1), signNews(12, 1, "x"),
		}},
		aPull{"all is left out", paces(4, 1), []int{4, 0}, []api.News{
			news(api.NewsEnd, 14, 1), news(api.NewsBegin, 14, 2), signNews(14, 2, "x"), news(api.NewsEnd, 14, 2),
		}},
	)
}

func TestStops(t *testing.T) {
	long := plain(0, 100, -100, 50, -50, 99, -99)
	long.Signs = []api.Sign{sign(1, "a"), sign(3, "b"), sign(4, "c"), sign(6, "d")}
	begin := aPull{"the beginning", nil, []int{100, -100}, []api.News{news(api.NewsBegin, 0, 0), signNews(1, 0, "a")}}
	for _, c := range []struct {
		name  string
		fade  int
		pulls aPull
	}{
		{"at once", 0, aPull{"", nil, []int{0, 0}, []api.News{news(api.NewsStopped, 2, 0)}}},
		{"one more", 1, aPull{"", nil, []int{25, 0}, []api.News{news(api.NewsStopped, 3, 0)}}},
		{"two more", 2, aPull{"", nil, []int{33, -16, 0}, []api.News{signNews(3, 0, "b"), news(api.NewsStopped, 4, 0)}}},
		{"three more", 3, aPull{"", nil, []int{37, -25, 24, 0}, []api.News{signNews(3, 0, "b"), signNews(4, 0, "c"), news(api.NewsStopped, 5, 0)}}},
		{"as many as there are", 4, aPull{"", nil, []int{50, -50, 99, -99, 0}, []api.News{signNews(3, 0, "b"), signNews(4, 0, "c"), signNews(6, 0, "d"), news(api.NewsEnd, 6, 0)}}},
		{"more than there are", api.MaxFade, aPull{"", nil, []int{50, -50, 99, -99, 0}, []api.News{signNews(3, 0, "b"), signNews(4, 0, "c"), signNews(6, 0, "d"), news(api.NewsEnd, 6, 0)}}},
	} {
		c.pulls.name, c.pulls.do = c.name, stops(c.fade)
		judgePulls(t, free(t, long), begin, c.pulls)
	}
}

// TestStopsAgain: a stop while a stop fades, and where nothing is said.
func TestStopsAgain(t *testing.T) {
	loud := plain(0, slices.Repeat([]int{100}, 10)...)
	loud.Signs = []api.Sign{sign(2, "a"), sign(3, "b"), sign(10, "c")}
	begin := aPull{"the beginning", nil, []int{100}, []api.News{news(api.NewsBegin, 0, 0)}}
	fading := aPull{"fading", stops(4), []int{80}, nil}
	rest := []api.News{signNews(2, 0, "a"), signNews(3, 0, "b"), news(api.NewsStopped, 5, 0)}
	judgePulls(t, free(t, loud), begin, fading, aPull{"and fading away", stops(2), []int{40, 13, 0}, []api.News{signNews(2, 0, "a"), signNews(3, 0, "b"), news(api.NewsStopped, 4, 0)}})
	judgePulls(t, free(t, loud), begin, fading, aPull{"and nearly stopped", stops(1), []int{30, 0}, []api.News{signNews(2, 0, "a"), news(api.NewsStopped, 3, 0)}})
	judgePulls(t, free(t, loud), begin, fading, aPull{"and at once", stops(0), []int{0}, []api.News{news(api.NewsStopped, 2, 0)}})
	judgePulls(t, free(t, loud), begin, fading, aPull{"as many as there are", stops(3), []int{60, 40, 20, 0}, rest})
	judgePulls(t, free(t, loud), begin, fading, aPull{"more than there are", stops(9), []int{60, 40, 20, 0}, rest})

	judgePulls(t, free(t, plain(0, 5)),
		aPull{"before it begins", stops(0), []int{5}, []api.News{news(api.NewsBegin, 0, 0)}},
		aPull{"after its last sample", stops(0), []int{0}, []api.News{news(api.NewsEnd, 1, 0)}},
		aPull{"in silence", stops(0), []int{0}, nil},
		aPull{"before another one", queues(plain(0, 6, 7)), []int{6}, []api.News{news(api.NewsBegin, 3, 1)}},
		aPull{"before the last sample", stops(1), []int{7, 0}, []api.News{news(api.NewsEnd, 5, 1)}},
	)
	judgePulls(t, free(t, plain(0, 5, 6), plain(0, 7, 8)),
		aPull{"the first one", nil, []int{5}, []api.News{news(api.NewsBegin, 0, 0)}},
		aPull{"the next one is not stopped", stops(0), []int{7, 8, 0}, []api.News{news(api.NewsStopped, 1, 0), news(api.NewsBegin, 1, 1), news(api.NewsEnd, 3, 1)}},
	)
}

func TestConsent(t *testing.T) {
	other := plain(0, 8, 9)
	other.Voice = 2
	l := opened(t, api.Grant{Voice: 1, From: 2, Until: 8, Budget: 6}, api.Grant{Voice: 1, Use: 1, Until: 3, Budget: 2})
	s := made(t, l, other, plain(0, 1, 2), plain(0, 3), plain(0, 4), plain(0, 5))
	judgePulls(t, s,
		aPull{"refused", nil, []int{1, 2}, []api.News{news(api.NewsRefused, 0, 0), news(api.NewsBegin, 0, 1)}},
		aPull{"from the grant that permits it", nil, []int{3, 4, 5}, []api.News{
			news(api.NewsEnd, 2, 1), news(api.NewsBegin, 2, 2), news(api.NewsEnd, 3, 2), news(api.NewsBegin, 3, 3), news(api.NewsEnd, 4, 3), news(api.NewsBegin, 4, 4),
		}},
	)
	isSame(t, "used", usedOf(l), []int{3, 2})
	judgePulls(t, s,
		aPull{"too much at its pace", func(s *stream.Speaker) api.Errno { s.Pace(pace(1, 2)); return queues(pieceP())(s) }, []int{0}, []api.News{news(api.NewsEnd, 5, 4), news(api.NewsRefused, 5, 5)}},
		aPull{"little at its pace", func(s *stream.Speaker) api.Errno { s.Pace(pace(2, 1)); return queues(pieceP())(s) }, []int{3}, []api.News{news(api.NewsBegin, 6, 6), signNews(6, 6, "x")}},
	)
	isSame(t, "Withdraw", l.Withdraw(0), api.OK)
	judgePulls(t, s,
		aPull{"what has begun goes on", queues(plain(1, 7)), []int{4, 0}, []api.News{news(api.NewsEnd, 8, 6), news(api.NewsLate, 8, 7)}},
		aPull{"no more", makes(1), []int{0, 0}, []api.News{news(api.NewsRefused, 9, 7)}},
	)
	isSame(t, "used", usedOf(l), []int{5, 2})
}

// TestRefusedAndLate: after a piece that is refused, the next one may be late, or empty without permission.
func TestRefusedAndLate(t *testing.T) {
	l := opened(t, api.Grant{Voice: 1, From: 3, Until: 9, Budget: 1})
	judgePulls(t, made(t, l, plain(0), plain(0, 1), plain(1, 2)),
		aPull{"refused", nil, []int{0, 0}, []api.News{news(api.NewsRefused, 0, 0), news(api.NewsRefused, 0, 1), news(api.NewsLate, 0, 2)}},
		aPull{"and still late", inserts(2, plain(0, 1)), []int{0}, []api.News{news(api.NewsRefused, 2, 3)}},
		aPull{"permitted", makes(1), []int{2}, []api.News{news(api.NewsBegin, 3, 2)}},
		aPull{"an empty one", queues(plain(0)), []int{0}, []api.News{news(api.NewsEnd, 4, 2), news(api.NewsBegin, 4, 4), news(api.NewsEnd, 4, 4)}},
		aPull{"no other one", queues(plain(0, 1)), []int{0}, []api.News{news(api.NewsRefused, 5, 5)}},
	)
}

// TestSharedLedger: speakers share a ledger with others.
func TestSharedLedger(t *testing.T) {
	l := opened(t, api.Grant{Voice: 1, Until: 100, Budget: 5})
	one, other := made(t, l, plain(0, 1, 2)), made(t, l, plain(0, 3, 4), plain(0, 5))
	judgePulls(t, one, aPull{"one", nil, []int{1}, []api.News{news(api.NewsBegin, 0, 0)}})
	isOK(t, "Take", results(l.Take(1, 1, 1, 0)), 0)
	judgePulls(t, other, aPull{"the other", nil, []int{3, 4, 0}, []api.News{news(api.NewsBegin, 0, 0), news(api.NewsEnd, 2, 0), news(api.NewsRefused, 2, 1)}})
	isOK(t, "Give", results(l.Give(all(1))), 1)
	judgePulls(t, other, aPull{"once more", queues(plain(0, 6)), []int{6}, []api.News{news(api.NewsBegin, 3, 2)}})
	isSame(t, "used", usedOf(l), []int{5, 1})
}

func TestJobs(t *testing.T) {
	for _, c := range []struct {
		name   string
		power  int
		jobs   []api.Job
		ready  []int
		inTime bool
		order  []int // nil: none
	}{
		{"none", 1, nil, nil, true, []int{}},
		{"no effort", 3, []api.Job{job(0, 0), job(1, 0)}, []int{0, 1}, false, nil},
		{"nothing to do", 3, []api.Job{job(0, 0), job(0, 0)}, []int{0, 0}, true, []int{0, 1}},
		{"rounded up", 3, []api.Job{job(3, 1), job(1, 2), job(2, 2), job(1, 3)}, []int{1, 2, 2, 3}, true, []int{0, 1, 2, 3}},
		{"too late in this order", 2, []api.Job{job(9, 9), job(2, 1), job(2, 2)}, []int{5, 6, 7}, false, []int{1, 2, 0}},
		{"the last one too late", 2, []api.Job{job(2, 1), job(3, 2)}, []int{1, 3}, false, nil},
		{"equal ones", 1, []api.Job{job(1, 3), job(1, 2), job(1, 3), job(0, 2)}, []int{1, 2, 3, 3}, false, []int{1, 3, 0, 2}},
	} {
		isOK(t, c.name, results(stream.Ready(c.power, c.jobs...)), c.ready)
		isOK(t, c.name, results(stream.InTime(c.power, c.jobs...)), c.inTime)
		if c.order == nil {
			isError(t, c.name, results(stream.Order(c.power, c.jobs...)), api.ErrNone)
		} else {
			isOK(t, c.name, results(stream.Order(c.power, c.jobs...)), c.order)
		}
	}
	many := slices.Repeat([]api.Job{job(api.MaxEffort, api.MaxClock)}, 1000)
	times, e := stream.Ready(1, many...)
	isOK(t, "many", results(times[999], e), 1000*api.MaxEffort)
	isOK(t, "many", results(stream.InTime(1, many...)), true)
}
