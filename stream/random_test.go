package stream_test

import (
	"math/rand/v2"
	"testing"

	"declaim/api"
	"declaim/stream"
)

// Random arguments have the results of the model.

func TestRandomPaced(t *testing.T) {
	forRandom(3000, func(r *rand.Rand) {
		s, p := randomSpeech(r, someOf(r, 4, 60)), randomPace(r)
		isOK(t, "Paced", results(stream.Paced(s, p)), modelPaced(s, p))
	})
}

// permission is OK for what is permitted.
func permission(permitted bool) api.Errno {
	if permitted {
		return api.OK
	}
	return api.ErrConsent
}

func TestRandomLedger(t *testing.T) {
	taken := 0
	forRandom(1000, func(r *rand.Rand) {
		l, m := stream.Open(), &modelLedger{}
		for range 60 {
			voice, use, n, at := fromTo(r, 1, 3), fromTo(r, 1, 2), r.IntN(30), r.IntN(100)
			switch r.IntN(6) {
			case 0:
				g := randomGrant(r)
				isOK(t, "Give", results(l.Give(g)), len(m.grants))
				m.grants = append(m.grants, &modelGrant{Grant: g})
			case 1:
				if len(m.grants) == 0 || isChance(r, 50) {
					continue
				}
				i, want := r.IntN(len(m.grants)), api.OK
				if m.grants[i].withdrawn {
					want = api.ErrState
				}
				isSame(t, "Withdraw", l.Withdraw(i), want)
				m.grants[i].withdrawn = true
			case 2, 3:
				_, permitted := m.permits(voice, use, n, at)
				isOK(t, "May", results(l.May(voice, use, n, at)), permitted)
			default:
				i, permitted := m.take(voice, use, n, at)
				isSame(t, "Take", results(l.Take(voice, use, n, at)), results(i, permission(permitted)))
				if permitted {
					taken++
				}
			}
			isSame(t, "Used", usedOf(l), usedOfModel(m))
		}
	})
	if taken < 5000 {
		t.Errorf("only %d taken", taken)
	}
}

func usedOfModel(m *modelLedger) []int {
	var all []int
	for _, g := range m.grants {
		all = append(all, g.used)
	}
	return all
}

// A pair is a speaker and its model, with their ledgers.
type pair struct {
	*testing.T
	*rand.Rand
	speaker *stream.Speaker
	ledger  *stream.Ledger
	model   *modelSpeaker
}

func newPair(t *testing.T, r *rand.Rand) pair {
	p := pair{t, r, nil, stream.Open(), newModel(&modelLedger{})}
	p.speaker = made(t, p.ledger)
	for range 4 {
		p.give(randomGrant(r))
	}
	return p
}

func (p pair) give(g api.Grant) {
	isOK(p.T, "Give", results(p.ledger.Give(g)), len(p.model.ledger.grants))
	p.model.ledger.grants = append(p.model.ledger.grants, &modelGrant{Grant: g})
}

// changeQueue adds a piece, or takes one out.
func (p pair) changeQueue() {
	piece, number := randomSpeech(p.Rand, 12), p.IntN(p.model.queued+1)
	place := p.model.place(number)
	switch choice := p.IntN(5); {
	case choice < 2:
		isOK(p.T, "Queue", results(p.speaker.Queue(piece)), p.model.insert(len(p.model.queue), piece))
	case choice < 4 && place >= 0:
		isOK(p.T, "Insert", results(p.speaker.Insert(number, piece)), p.model.insert(place, piece))
	case choice < 4:
		isError(p.T, "Insert", results(p.speaker.Insert(number, piece)), api.ErrNone)
	case place >= 0:
		isSame(p.T, "Drop", p.speaker.Drop(number), api.OK)
		p.model.drop(place)
	default:
		isSame(p.T, "Drop", p.speaker.Drop(number), api.ErrNone)
	}
}

// change does something between samples.
func (p pair) change() {
	switch p.IntN(9) {
	case 0:
		effort := p.IntN(30)
		isSame(p.T, "Make", p.speaker.Make(effort), api.OK)
		p.model.make(effort)
	case 1:
		pace := randomPace(p.Rand)
		isSame(p.T, "Pace", p.speaker.Pace(pace), api.OK)
		p.model.pace = pace
	case 2:
		fade := p.IntN(8)
		isSame(p.T, "Stop", p.speaker.Stop(fade), api.OK)
		p.model.stop(fade)
	case 3:
		if isChance(p.Rand, 30) {
			p.give(randomGrant(p.Rand))
		}
	case 4:
		if isChance(p.Rand, 10) {
			i := p.IntN(len(p.model.ledger.grants))
			isSame(p.T, "Withdraw", p.ledger.Withdraw(i) == api.OK, !p.model.ledger.grants[i].withdrawn)
			p.model.ledger.grants[i].withdrawn = true
		}
	default:
		p.changeQueue()
	}
}

func TestRandomSpeaker(t *testing.T) {
	kinds := map[api.NewsKind]int{}
	forRandom(3000, func(r *rand.Rand) {
		p := newPair(t, r)
		for range 60 {
			for range r.IntN(4) {
				p.change()
			}
			n := someOf(r, 1, r.IntN(12))
			samples, news := p.model.pull(n)
			isOK(t, "Pull", results(p.speaker.Pull(n)), samples, news)
			isSame(t, "Waiting", p.speaker.Waiting(), p.model.waiting())
			isSame(t, "Clock", p.speaker.Clock(), p.model.clock)
			isSame(t, "Used", usedOf(p.ledger), usedOfModel(p.model.ledger))
			for _, n := range news {
				kinds[n.Kind]++
			}
		}
	})
	for kind := api.NewsBegin; kind <= api.NewsLate; kind++ {
		if kinds[kind] < 1500 {
			t.Errorf("only %d news of the kind %d", kinds[kind], kind)
		}
	}
}

func randomJobs(r *rand.Rand) (int, []api.Job) {
	most := someOf(r, 3, 40)
	return fromTo(r, 1, 5), manyOf(r.IntN(7), func() api.Job { return job(r.IntN(most), r.IntN(2*most)) })
}

func TestRandomJobs(t *testing.T) {
	forRandom(3000, func(r *rand.Rand) {
		power, jobs := randomJobs(r)
		isOK(t, "Ready", results(stream.Ready(power, jobs...)), modelReady(power, jobs))
		isOK(t, "InTime", results(stream.InTime(power, jobs...)), modelInTime(power, jobs))
	})
}
