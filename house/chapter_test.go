package house_test

import (
	"testing"

	"declaim/api"
	"declaim/house"
)

// The examples of the chapter and of DOC.md.

func TestChapterChips(t *testing.T) {
	isOK(t, "Chips", results(house.Chips(0, 8)), []int{-1, -1, 1, -1, -1, 1, -1, -1})
	isOK(t, "Chips", results(house.Chips(7, 8)), []int{-1, 1, 1, -1, -1, -1, -1, -1})
}

func TestChapterChances(t *testing.T) {
	isOK(t, "Count", results(house.Count([]int{1, 2, 3}, 4)), chance(2, 8))
	isOK(t, "Count", results(house.Count([]int{5}, -5)), chance(2, 2))
	isOK(t, "Count", results(house.Count(nil, 0)), chance(1, 1))
	isOK(t, "Flips", results(house.Flips([]int{1, 2, 3})), chance(2, 8))
	isOK(t, "Flips", results(house.Flips([]int{1, -1})), chance(4, 4))
	isOK(t, "Signs", results(house.Signs(5, 5)), chance(2, 32))
	isOK(t, "Signs", results(house.Signs(2, 4)), chance(16, 16))
}

func TestChapterHolm(t *testing.T) {
	isOK(t, "Holm", results(house.Holm([]api.Chance{chance(1, 100), chance(1, 20), chance(1, 30)}, 1, 20)), []bool{true, false, false})
	isOK(t, "Holm", results(house.Holm([]api.Chance{chance(1, 100), chance(1, 20), chance(1, 40)}, 1, 20)), []bool{true, true, true})
}

func TestChapterSquare(t *testing.T) {
	isOK(t, "Square", results(house.Square(4)), [][]int{{0, 1, 3, 2}, {1, 2, 0, 3}, {2, 3, 1, 0}, {3, 0, 2, 1}})
	isOK(t, "Square", results(house.Square(3)), [][]int{{0, 1, 2}, {1, 2, 0}, {2, 0, 1}, {2, 1, 0}, {0, 2, 1}, {1, 0, 2}})
}

func TestChapterChanges(t *testing.T) {
	a, b := []int{1, 2, 3, 4, 5}, []int{1, 9, 3, 4, 0, 7}
	isOK(t, "Changes", results(house.Changes(a, b, 1)), []api.Change{change(1, 2, 7), change(4, 6, 5)})
	isOK(t, "Changes", results(house.Changes(a, b, 3)), []api.Change{change(1, 6, 7)})
}
