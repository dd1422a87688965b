package unit

import (
	"slices"

	"declaim/api"
)

const (
	mostPhone   = 8 // bytes of a phone
	leastByte   = 33
	mostByte    = 126
	mostElement = 10000 // of a vector
	mostPitch   = 2000
	mostLength  = 100000 // of a unit
	mostSample  = 1 << 31
	mostWeight  = 1000
	mostRanks   = 50  // sequences that are asked for
	mostPiece   = 100 // least frames of a piece
	mostPrice   = 1000000000
	mostScale   = 1000000000000
)

func between(n, least, most int) bool { return least <= n && n <= most }

// allBetween reports whether no number of a list is out of range.
func allBetween(list []int, least, most int) bool {
	return !slices.ContainsFunc(list, func(n int) bool { return !between(n, least, most) })
}

func phoneWrong(phone string) bool {
	return !between(len(phone), 1, mostPhone) || slices.ContainsFunc([]byte(phone), func(b byte) bool { return b < leastByte || b > mostByte })
}

// besideWrong is about what is beside a phone, which may be nothing.
func besideWrong(phone string) bool { return phone != "" && phoneWrong(phone) }

func wantedWrong(t api.Wanted) bool {
	return phoneWrong(t.Phone) || besideWrong(t.Before) || besideWrong(t.After) || !between(t.Pitch, 0, mostPitch) || !between(t.Length, 1, mostLength)
}

// vectorRight reports whether a list is a vector with so many parts.
func vectorRight(v []int, parts int) bool {
	return len(v) == parts && between(parts, 1, api.MaxParts) && allBetween(v, -mostElement, mostElement)
}

// unitRight reports whether a list has the vectors of a voice that have so many parts, and all else is in its range.
func unitRight(u *api.Unit, parts int) bool {
	return !wantedWrong(spoken(u)) && u.Take >= 0 && 0 <= u.From && u.From < u.To && u.To <= mostSample &&
		vectorRight(u.Begin, parts) && vectorRight(u.End, parts)
}

// unitsRight reports whether units are valid and could be of one voice.
func unitsRight(units ...api.Unit) bool {
	for i := range units {
		if !unitRight(&units[i], len(units[0].Begin)) {
			return false
		}
	}
	return true
}

func voiceRight(voice []api.Unit) bool {
	return between(len(voice), 1, api.MaxUnits) && unitsRight(voice...)
}

func weightsRight(w api.Weights) bool {
	return allBetween([]int{w.Beside, w.Pitch, w.Length, w.Join}, 0, mostWeight)
}

// checkTask checks what all calls share that choose units.
func checkTask(voice []api.Unit, t []api.Wanted, w api.Weights) api.Errno {
	switch {
	case len(voice) > api.MaxUnits || len(t) > api.MaxWanted:
		return api.ErrLong
	case !voiceRight(voice) || slices.ContainsFunc(t, wantedWrong) || !weightsRight(w):
		return api.ErrArg
	}
	return api.OK
}

// isSequence reports whether units of a voice can be used for targets.
func isSequence(voice []api.Unit, t []api.Wanted, units []int) bool {
	if len(units) != len(t) {
		return false
	}
	for i, u := range units {
		if !between(u, 0, len(voice)-1) || voice[u].Phone != t[i].Phone {
			return false
		}
	}
	return true
}

// isTable reports whether a certificate has a list of numbers for each target, one for each unit.
func isTable(certificate [][]int, targets, units int) bool {
	return len(certificate) == targets && !slices.ContainsFunc(certificate, func(row []int) bool { return len(row) != units })
}

func checkCut(frames, prototypes [][]int, least int) api.Errno {
	switch {
	case max(len(frames), len(prototypes)) > api.MaxCuts:
		return api.ErrLong
	case !vectorsRight(frames, prototypes) || !between(least, 1, mostPiece):
		return api.ErrArg
	}
	return api.OK
}

// vectorsRight reports whether lists have vectors of one length.
func vectorsRight(frames, prototypes [][]int) bool {
	all := slices.Concat(frames, prototypes)
	return !slices.ContainsFunc(all, func(v []int) bool { return !vectorRight(v, len(all[0])) })
}

// areLengths reports whether pieces of such lengths are a cut.
func areLengths(lengths []int, frames, phones, least int) bool {
	if len(lengths) != phones || !allBetween(lengths, least, frames) {
		return false
	}
	sum := 0
	for _, length := range lengths {
		sum += length
	}
	return sum == frames
}

// checkCover checks what all calls share that cover numbers.
func checkCover(n int, sets [][]int) api.Errno {
	switch {
	case n > api.MaxNeeded || len(sets) > api.MaxCovers:
		return api.ErrLong
	case n < 0 || slices.ContainsFunc(sets, func(set []int) bool { return !allBetween(set, 0, n-1) }):
		return api.ErrArg
	}
	return api.OK
}
