package tract

// A direction in which waves run.
type direction int

const (
	forward direction = iota
	backward
)

// back is the direction in which a wave is thrown back.
func (d direction) back() direction { return backward - d }

// A wave of a section in each direction.
type wave [2]int

// A place is where waves meet or end: it writes those that leave it, of sections with these areas.
type place interface {
	meet(areas []int, old, next []wave)
}

// A side of a joint is a section, with the direction in which its wave arrives.
type side struct {
	section  int
	arriving direction
}

const mostSides = 3 // of a joint of a tube

// A joint is where sections begin and end.
type joint []side

func (j joint) meet(areas []int, old, next []wave) {
	var widths, waves [mostSides]int
	for i, s := range j {
		widths[i], waves[i] = areas[s.section], old[s.section][s.arriving]
	}
	scatter(widths[:len(j)], waves[:len(j)])
	for i, s := range j {
		next[s.section][s.arriving.back()] = waves[i]
	}
}

// scatter replaces the waves that arrive at a joint by those that leave it.
func scatter(areas, waves []int) {
	sum, all := 0, 0
	for i, area := range areas {
		sum += area
		all += 2 * area * waves[i]
	}
	for i, w := range waves {
		waves[i] = (all - sum*w) / sum
	}
}

// An end throws back some percent of the wave of a side; less than 0: with the other sign.
type end struct {
	side
	percent int
}

func (e end) meet(_ []int, old, next []wave) {
	next[e.section][e.arriving.back()] = e.percent * old[e.section][e.arriving] / 100
}
