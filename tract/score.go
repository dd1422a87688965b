package tract

import (
	"iter"
	"slices"

	"declaim/api"
)

// followed returns the place of a follower after it has followed a goal.
func followed(x, goal, speed int) int {
	distance := goal - x
	move := speed * distance / 1000
	if move == 0 {
		move = min(max(distance, -1), 1)
	}
	return x + move
}

// A follower has a place.
type follower int

// follow moves a follower, and returns its new place.
func (f *follower) follow(goal, speed int) int {
	*f = follower(followed(int(*f), goal, speed))
	return int(*f)
}

// A wall of a section follows a follower of the goal.
type wall struct{ ahead, own follower }

func (w *wall) move(goal, speed int) int { return w.own.follow(w.ahead.follow(goal, speed), speed) }

const restSpeed = 100 // of what no gesture moves

// A score has areas of sections at rest, and gestures that move them.
type score struct {
	rest     []int
	gestures []api.Gesture
}

// goal returns that of a section at a time, and its speed.
func (s score) goal(section, time int) (int, int) {
	for _, g := range slices.Backward(s.gestures) {
		if between(section, g.First, g.Last) && between(time, g.Start, g.End-1) {
			return g.Area, g.Speed
		}
	}
	return s.rest[section], restSpeed
}

// moves returns, for each section, what moves it toward a goal with a speed, and returns its area.
func (s score) moves() []func(goal, speed int) int {
	moves := make([]func(goal, speed int) int, len(s.rest))
	for section, area := range s.rest {
		w := &wall{follower(area), follower(area)}
		moves[section] = w.move
	}
	return moves
}

// moments yields times with the areas of all sections.
func (s score) moments(times int) iter.Seq2[int, []int] {
	return func(yield func(int, []int) bool) {
		moves := s.moves()
		for time := range times {
			areas := make([]int, len(s.rest))
			for section, move := range moves {
				areas[section] = move(s.goal(section, time))
			}
			if !yield(time, areas) {
				return
			}
		}
	}
}
