package stream

// A link of a ring has a value, but for the root, where the ring begins and ends.
type link[E any] struct {
	value          E
	before, behind *link[E]
}

// newRing returns the root of a ring without values.
func newRing[E any]() *link[E] {
	root := new(link[E])
	root.before, root.behind = root, root
	return root
}

// add puts a value before a link; before the root is the end.
func (l *link[E]) add(value E) {
	added := &link[E]{value, l.before, l}
	added.before.behind, added.behind.before = added, added
}

// remove takes a link out of its ring.
func (l *link[E]) remove() { l.before.behind, l.behind.before = l.behind, l.before }

// all yields the links of the ring of a root.
func (l *link[E]) all(yield func(*link[E]) bool) {
	for at := l.behind; at != l && yield(at); {
		at = at.behind
	}
}

// length is the number of values in the ring of a root.
func (l *link[E]) length() int {
	n := 0
	for range l.all {
		n++
	}
	return n
}
