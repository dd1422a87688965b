package stream_test

import "declaim/api"

// The chapter's definitions, word by word.

// modelPaced finds which samples are said, and then what comes first of them.
func modelPaced(s api.Speech, p api.Pace) api.Speech {
	var said []int
	say := func(from, to int) {
		for i := from; i < to; i++ {
			said = append(said, i)
		}
	}
	bounds := append(append([]int{}, s.Periods...), len(s.Samples))
	say(0, bounds[0])
	for i := range s.Periods {
		for range (i+1)*p.Den/p.Num - i*p.Den/p.Num {
			say(bounds[i], bounds[i+1])
		}
	}
	paced := api.Speech{Voice: s.Voice, Use: s.Use, Effort: s.Effort}
	for _, i := range said {
		paced.Samples = append(paced.Samples, s.Samples[i])
	}
	for _, sign := range s.Signs {
		paced.Signs = append(paced.Signs, api.Sign{At: modelPlace(said, sign.At), Name: sign.Name})
	}
	return paced
}

// modelPlace is where a sample is said, or what is behind it, or the end.
func modelPlace(said []int, sample int) int {
	for place, i := range said {
		if i == sample {
			return place
		}
	}
	for place, i := range said {
		if i > sample {
			return place
		}
	}
	return len(said)
}

type modelGrant struct {
	api.Grant
	used      int
	withdrawn bool
}

type modelLedger struct{ grants []*modelGrant }

func (l *modelLedger) permits(voice, use, n, t int) (int, bool) {
	for i, g := range l.grants {
		if !g.withdrawn && g.Voice == voice && (g.Use == use || g.Use == 0) && g.From <= t && t < g.Until && g.used+n <= g.Budget {
			return i, true
		}
	}
	return 0, false
}

func (l *modelLedger) take(voice, use, n, t int) (int, bool) {
	i, permitted := l.permits(voice, use, n, t)
	if permitted {
		l.grants[i].used += n
	}
	return i, permitted
}

// A modelSlot is a sample with the signs that come before it.
type modelSlot struct {
	sample int
	signs  []string
}

type modelPiece struct {
	api.Speech
	number, effort int // what it has got
}

type modelSpeaker struct {
	ledger *modelLedger
	queue  []*modelPiece
	queued int
	pace   api.Pace
	clock  int
	late   bool
	saying *modelPiece
	slots  []modelSlot
	end    []string // signs
	last   api.NewsKind
	news   []api.News
}

func newModel(l *modelLedger) *modelSpeaker {
	return &modelSpeaker{ledger: l, pace: api.Pace{Num: 1, Den: 1}}
}

func (m *modelSpeaker) insert(place int, p api.Speech) int {
	piece := &modelPiece{p, m.queued, 0}
	m.queue = append(m.queue[:place:place], append([]*modelPiece{piece}, m.queue[place:]...)...)
	m.queued++
	return piece.number
}

// place is that of a piece in the queue, or -1.
func (m *modelSpeaker) place(number int) int {
	for i, p := range m.queue {
		if p.number == number {
			return i
		}
	}
	return -1
}

func (m *modelSpeaker) drop(place int) {
	m.queue = append(m.queue[:place:place], m.queue[place+1:]...)
}

func (m *modelSpeaker) waiting() []int {
	var numbers []int
	for _, p := range m.queue {
		numbers = append(numbers, p.number)
	}
	return numbers
}

// make gives one after the other.
func (m *modelSpeaker) make(effort int) {
	for ; effort > 0; effort-- {
		for _, p := range m.queue {
			if p.effort < p.Effort {
				p.effort++
				break
			}
		}
	}
}

func (m *modelSpeaker) stop(n int) {
	if m.saying == nil || len(m.slots) <= n {
		return
	}
	m.slots, m.end, m.last = m.slots[:n], nil, api.NewsStopped
	for i := range m.slots {
		x := m.slots[i].sample
		if x < 0 {
			m.slots[i].sample = -(-x * (n - i) / (n + 1))
		} else {
			m.slots[i].sample = x * (n - i) / (n + 1)
		}
	}
}

func (m *modelSpeaker) tell(kind api.NewsKind, piece *modelPiece, name string) {
	m.news = append(m.news, api.News{Kind: kind, At: m.clock, Piece: piece.number, Name: name})
}

// begin takes the first piece of the queue.
func (m *modelSpeaker) begin() {
	p := m.queue[0]
	m.queue = m.queue[1:]
	paced := modelPaced(p.Speech, m.pace)
	if _, permitted := m.ledger.take(p.Voice, p.Use, len(paced.Samples), m.clock); !permitted {
		m.tell(api.NewsRefused, p, "")
		return
	}
	m.tell(api.NewsBegin, p, "")
	m.saying, m.slots, m.end, m.last = p, nil, nil, api.NewsEnd
	for i, sample := range paced.Samples {
		slot := modelSlot{sample: sample}
		for _, s := range paced.Signs {
			if s.At == i {
				slot.signs = append(slot.signs, s.Name)
			}
		}
		m.slots = append(m.slots, slot)
	}
	for _, s := range paced.Signs {
		if s.At == len(paced.Samples) {
			m.end = append(m.end, s.Name)
		}
	}
}

func (m *modelSpeaker) tellSigns(names []string) {
	for _, name := range names {
		m.tell(api.NewsSign, m.saying, name)
	}
}

func (m *modelSpeaker) sample() int {
	for {
		if m.saying == nil && len(m.queue) > 0 && m.queue[0].effort == m.queue[0].Effort {
			m.begin()
			continue
		}
		if m.saying == nil || len(m.slots) > 0 {
			break
		}
		m.tellSigns(m.end)
		m.tell(m.last, m.saying, "")
		m.saying = nil
	}
	sample, late := 0, false
	if m.saying != nil {
		m.tellSigns(m.slots[0].signs)
		sample, m.slots = m.slots[0].sample, m.slots[1:]
	} else if len(m.queue) > 0 {
		late = true
		if !m.late {
			m.tell(api.NewsLate, m.queue[0], "")
		}
	}
	m.late = late
	m.clock++
	return sample
}

// pull returns samples, and the news that come with them.
func (m *modelSpeaker) pull(n int) ([]int, []api.News) {
	var samples []int
	m.news = nil
	for range n {
		samples = append(samples, m.sample())
	}
	return samples, m.news
}

// modelReady tries one sample after the other.
func modelReady(power int, jobs []api.Job) []int {
	var times []int
	sum := 0
	for _, j := range jobs {
		sum += j.Effort
		t := 0
		for power*t < sum {
			t++
		}
		times = append(times, t)
	}
	return times
}

func modelInTime(power int, jobs []api.Job) bool {
	for i, t := range modelReady(power, jobs) {
		if t > jobs[i].Due {
			return false
		}
	}
	return true
}
