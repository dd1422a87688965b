package house

import (
	"slices"

	"declaim/api"
)

// The generator, and which of its bits are a tag.
const (
	factor  = 6364136223846793005
	summand = 1442695040888963407
	tagFrom = 48
	tagBits = 16
)

// A generator is the state that its bits start from.
type generator uint64

// bits yields the bits, and never ends by itself.
func (g generator) bits(yield func(bool) bool) {
	for {
		g = g*factor + summand
		if !yield(g>>63 == 1) {
			return
		}
	}
}

// first returns the first bits.
func (g generator) first(n int) []bool {
	var bits []bool
	for bit := range g.bits {
		if len(bits) == n {
			break
		}
		bits = append(bits, bit)
	}
	return bits
}

func signOf(bit bool) int {
	if bit {
		return 1
	}
	return -1
}

func chipsOf(start, n int) []int {
	var chips []int
	for _, bit := range generator(start).first(n) {
		chips = append(chips, signOf(bit))
	}
	return chips
}

// A marker hides a mark in waves, and finds it there.
type marker struct {
	api.Stamp
	first  []int // chips of the first period of a frame
	others []int // chips of each other one, before they get their sign
}

func newMarker(m api.Stamp) marker {
	chips := chipsOf(m.Key, 2*m.Period)
	return marker{m, chips[:m.Period], chips[m.Period:]}
}

// wordBits is the number of bits of a word.
func (m marker) wordBits() int { return m.Bits + tagBits }

// word returns the bits of a message, then those of its tag.
func (m marker) word(message int) []bool {
	var bits []bool
	for i := range m.Bits {
		bits = append(bits, message>>(m.Bits-1-i)&1 == 1)
	}
	tag := generator(m.Key + 1 + message).first(tagFrom + tagBits)[tagFrom:]
	return append(bits, tag...)
}

// frame returns the chips of a frame, with their signs.
func (m marker) frame(message int) []int {
	frame := slices.Clone(m.first)
	for _, bit := range m.word(message) {
		for _, chip := range m.others {
			frame = append(frame, signOf(bit)*chip)
		}
	}
	return frame
}

// eachPeriod does something with the samples of each period of the frames of a wave, and with their chips.
func (m marker) eachPeriod(wave, frame []int, do func(samples, chips []int)) {
	for from := 0; from+len(frame) <= len(wave); from += len(frame) {
		for at := 0; at < len(frame); at += m.Period {
			do(wave[from+at:][:m.Period], frame[at:][:m.Period])
		}
	}
}

// mark returns a marked wave, whose samples may be too loud, and the depth.
func (m marker) mark(a []int, message int) ([]int, int) {
	wave, depth := slices.Clone(a), 0
	m.eachPeriod(wave, m.frame(message), func(samples, chips []int) {
		missing := m.Margin - correlation(samples, chips)
		if missing <= 0 {
			return
		}
		d := (missing + m.Period - 1) / m.Period
		for i, chip := range chips {
			samples[i] += d * chip
		}
		depth = max(depth, d)
	})
	return wave, depth
}

func correlation(samples, chips []int) int {
	sum := 0
	for i, chip := range chips {
		sum += samples[i] * chip
	}
	return sum
}

// correlations returns the correlation of chips with the samples from each offset on.
func correlations(wave, chips []int) []int {
	var all []int
	for from := range len(wave) - len(chips) + 1 {
		all = append(all, correlation(wave[from:], chips))
	}
	return all
}

// finds returns all finds in a wave.
func (m marker) finds(wave []int, threshold int) []api.Find {
	var finds []api.Find
	first, others := correlations(wave, m.first), correlations(wave, m.others)
	bits := make([]bool, m.wordBits())
offsets:
	for offset := range len(wave) - m.Period*(1+m.wordBits()) + 1 {
		if first[offset] < threshold {
			continue
		}
		for i := range bits {
			k := others[offset+m.Period*(i+1)]
			if -threshold < k && k < threshold {
				continue offsets
			}
			bits[i] = k > 0
		}
		message := numberOf(bits[:m.Bits])
		if slices.Equal(bits, m.word(message)) {
			finds = append(finds, api.Find{Offset: offset, Message: message})
		}
	}
	return finds
}

// numberOf returns the number that bits are, the highest one first.
func numberOf(bits []bool) int {
	number := 0
	for _, bit := range bits {
		number *= 2
		if bit {
			number++
		}
	}
	return number
}
