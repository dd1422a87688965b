package stream

import (
	"slices"

	"declaim/api"
)

// A consent is asked for the samples of a piece before it begins.
type consent interface {
	Take(voice, use, n, t int) (int, api.Errno)
}

// What a speaker does.
type state int

const (
	idle state = iota
	saying
	stopping // saying a piece that does not reach its end
)

// A waiting piece is in the queue.
type waiting struct {
	api.Speech
	number int
	needs  int // effort
}

// An utterance is what a speaker does, and what is still to be heard of the piece that it says.
type utterance struct {
	state   state
	number  int
	began   int // clock
	samples []int
	signs   []api.Sign // each at so many samples behind the beginning
}

// Speaker says pieces.
type Speaker struct {
	utterance
	ledger consent
	queue  *link[waiting]
	queued int // pieces so far
	pace   api.Pace
	clock  int
	late   bool // the sample before was silent because the first piece was not made
}

// isNone reports whether there is no speaker.
func (s *Speaker) isNone() bool { return s == nil || s.ledger == nil }

// find returns the place of a piece in the queue, or nil.
func (s *Speaker) find(number int) *link[waiting] {
	for place := range s.queue.all {
		if place.value.number == number {
			return place
		}
	}
	return nil
}

// add puts a piece before a place of the queue.
func (s *Speaker) add(place *link[waiting], p api.Speech) (int, api.Errno) {
	if s.queue.length() >= api.MaxQueue {
		return 0, api.ErrLong
	}
	number := s.queued
	p.Samples, p.Periods, p.Signs = slices.Clone(p.Samples), slices.Clone(p.Periods), slices.Clone(p.Signs)
	place.add(waiting{p, number, p.Effort})
	s.queued++
	return number, api.OK
}

// work gives effort to the pieces of the queue.
func (s *Speaker) work(effort int) {
	for place := range s.queue.all {
		given := min(effort, place.value.needs)
		place.value.needs -= given
		effort -= given
	}
}

func (s *Speaker) stop(fade int) {
	if len(s.samples) <= fade {
		return
	}
	s.state = stopping
	s.samples = s.samples[:fade]
	for i, sample := range s.samples {
		s.samples[i] = sample * (fade - i) / (fade + 1)
	}
	end := s.clock - s.began + fade
	s.signs = slices.DeleteFunc(s.signs, func(sign api.Sign) bool { return sign.At >= end })
}
