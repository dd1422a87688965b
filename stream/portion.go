package stream

import (
	"slices"

	"declaim/api"
)

// A portion is what a speaker lets be heard in one call.
type portion struct {
	*Speaker
	heard []int
	news  []api.News
}

func (s *Speaker) pull(n int) ([]int, []api.News) {
	p := &portion{Speaker: s, heard: make([]int, 0, n)}
	steps := []func() bool{p.begin, p.end, p.say, p.rest, p.tick}
	for range n {
		sample(steps)
	}
	return p.heard, p.news
}

// sample takes the steps of a sample; after one that returns true, the first one comes again.
func sample(steps []func() bool) {
again:
	for _, step := range steps {
		if step() {
			goto again
		}
	}
}

// tell adds news of a piece.
func (p *portion) tell(kind api.NewsKind, number int, name string) {
	p.news = append(p.news, api.News{Kind: kind, At: p.clock, Piece: number, Name: name})
}

// begin begins the first piece of the queue, if it is made; after one that is refused comes the next one.
func (p *portion) begin() bool {
	first := p.queue.behind
	if p.state != idle || first == p.queue || first.value.needs > 0 {
		return false
	}
	first.remove()
	number, t := first.value.number, talk{first.value.Speech, p.pace}
	if _, e := p.ledger.Take(t.Voice, t.Use, t.length(), p.clock); e != api.OK {
		p.tell(api.NewsRefused, number, "")
		return true
	}
	p.tell(api.NewsBegin, number, "")
	p.utterance = utterance{saying, number, p.clock, slices.Collect(t.said), slices.Collect(t.cues)}
	return false
}

// end ends the piece that was said; then the next one may begin.
func (p *portion) end() bool {
	if p.state == idle || len(p.samples) > 0 {
		return false
	}
	p.sign()
	kind := api.NewsEnd
	if p.state == stopping {
		kind = api.NewsStopped
	}
	p.tell(kind, p.number, "")
	p.utterance = utterance{}
	return true
}

// sign tells the signs that come now.
func (p *portion) sign() {
	for len(p.signs) > 0 && p.signs[0].At == p.clock-p.began {
		p.tell(api.NewsSign, p.number, p.signs[0].Name)
		p.signs = p.signs[1:]
	}
}

// say lets the next sample of a piece be heard.
func (p *portion) say() bool {
	if p.state == idle {
		return false
	}
	p.sign()
	p.heard = append(p.heard, p.samples[0])
	p.samples = p.samples[1:]
	p.late = false
	return false
}

// rest lets silence be heard.
func (p *portion) rest() bool {
	if p.state != idle {
		return false
	}
	first := p.queue.behind
	late := first != p.queue
	if late && !p.late {
		p.tell(api.NewsLate, first.value.number, "")
	}
	p.heard = append(p.heard, 0)
	p.late = late
	return false
}

func (p *portion) tick() bool {
	p.clock++
	return false
}
