package unit_test

import (
	"testing"

	"declaim/api"
	"declaim/unit"
)

// The examples of the chapter and of DOC.md.

func TestChapterCosts(t *testing.T) {
	voice, w := voiceE(), weightsE()
	isSame(t, "Valid", unit.Valid(voice), true)
	isOK(t, "TargetCost", results(unit.TargetCost(voice[2], api.Wanted{Phone: "a", Pitch: 100, Length: 12}, w)), 22)
	isOK(t, "JoinCost of 0 and 1", results(unit.JoinCost(voice[0], voice[1], w)), 0)
	isOK(t, "JoinCost of 2 and 1", results(unit.JoinCost(voice[2], voice[1], w)), 0)
	isOK(t, "JoinCost of 1 and 0", results(unit.JoinCost(voice[1], voice[0], w)), 0)
	isOK(t, "JoinCost of 0 and 0", results(unit.JoinCost(voice[0], voice[0], w)), 8)
}

func TestChapterChoose(t *testing.T) {
	best, other := api.Sequence{Units: []int{0, 1}, Cost: 0}, api.Sequence{Units: []int{2, 1}, Cost: 20}
	certificate := [][]int{{0, 0, 20}, {0, 0, 0}}
	isOK(t, "Choose", results(unit.Choose(voiceE(), wanted("a", "b"), weightsE())), best, certificate)
	isOK(t, "Best", results(unit.Best(voiceE(), wanted("a", "b"), weightsE(), 5)), []api.Sequence{best, other})
	isSame(t, "Verify", unit.Verify(voiceE(), wanted("a", "b"), weightsE(), 0, certificate), true)
	isOK(t, "Cost", results(unit.Cost(voiceE(), wanted("a", "b"), weightsE(), other.Units)), 20)
}

func TestChapterCut(t *testing.T) {
	frames, prototypes := [][]int{{1}, {1}, {9}}, [][]int{{1}, {8}}
	isOK(t, "Cut", results(unit.Cut(frames, prototypes, 1)), []int{2, 1}, 1)
	isOK(t, "CutCost", results(unit.CutCost(frames, prototypes, 1, []int{2, 1})), 1)
}

func TestChapterCover(t *testing.T) {
	isOK(t, "Greedy", results(unit.Greedy(4, setsE())), []int{0, 1})
	isOK(t, "Least", results(unit.Least(4, setsE())), []int{0, 1})
	prices := []int{9240, 9240, 9240, 27720}
	isOK(t, "Price", results(unit.Price(4, setsE())), prices, 50820)
	isSame(t, "Proves", results(unit.Proves(4, setsE(), prices, 50820)), results(2, true))
}
