package letter

import (
	"slices"

	"declaim/api"
)

// aligner has the pairs of each letter, in the order of their pieces.
type aligner map[rune][]api.Pair

func newAligner(pairs []api.Pair) aligner {
	a := aligner{}
	for _, p := range pairs {
		a[p.Letter] = append(a[p.Letter], p)
	}
	return a
}

// cell is the alignment of the letters from one on with the phones from one on.
type cell struct {
	exists bool
	cost   int
	pair   int // which one of the first letter's pairs it takes
	to     int // where the phones of the other letters begin
}

// align returns, for each letter, which one of its pairs the alignment takes, and the cost; false if there is no alignment.
func (a aligner) align(letters []rune, phones []string) ([]int, int, bool) {
	rows := newRows(len(letters)+1, len(phones)+1)
	rows[len(letters)][len(phones)].exists = true
	for i, letter := range slices.Backward(letters) {
		fillRow(rows[i], rows[i+1], a[letter], phones)
	}
	first := rows[0][0]
	if !first.exists {
		return nil, 0, false
	}
	var chosen []int
	from := 0
	for i := range letters {
		chosen = append(chosen, rows[i][from].pair)
		from = rows[i][from].to
	}
	return chosen, first.cost, true
}

// newRows returns rows that cannot grow into each other.
func newRows(count, width int) [][]cell {
	cells := make([]cell, count*width)
	var rows [][]cell
	for from := 0; from < len(cells); from += width {
		rows = append(rows, cells[from:from+width:from+width])
	}
	return rows
}

// fillRow fills the row of a letter with these pairs; next is the row of the letter behind it.
func fillRow(row, next []cell, pairs []api.Pair, phones []string) {
	for from := range row {
		for to := from; to <= min(from+mostPiece, len(phones)); to++ {
			if !next[to].exists {
				continue
			}
			pair, found := find(pairs, func(p api.Pair) int { return slices.Compare(p.Piece, phones[from:to]) })
			if !found {
				continue
			}
			cost := pairs[pair].Cost + next[to].cost
			// Of pieces that begin at the same phone the shorter one comes first, so a longer one must cost less.
			if !row[from].exists || cost < row[from].cost {
				row[from] = cell{exists: true, cost: cost, pair: pair, to: to}
			}
		}
	}
}
