package letter

import (
	"cmp"
	"slices"
)

// share is how many examples have a pair.
type share struct {
	pair  int // which one of the letter's pairs
	count int
}

// tally counts the examples for which a test holds.
type tally struct {
	test   test
	all    int
	shares []share // in increasing order of pairs
	most   share   // the greatest one, of several the first one
	place  int     // in the queue
}

// uniform reports whether all examples have the same pair.
func (t *tally) uniform() bool { return t.most.count == t.all }

// add adds examples with a pair, or takes them away.
func (t *tally) add(pair, by int) {
	i, found := find(t.shares, func(s share) int { return cmp.Compare(s.pair, pair) })
	if !found {
		t.shares = slices.Insert(t.shares, i, share{pair: pair})
	}
	t.all += by
	t.shares[i].count += by
	changed := t.shares[i]
	switch {
	case changed.count > t.most.count, changed.count == t.most.count && pair < t.most.pair:
		t.most = changed
	case pair == t.most.pair:
		// It has become smaller, so that any other one may be the greatest now.
		t.most = slices.MaxFunc(t.shares, func(a, b share) int { return cmp.Compare(a.count, b.count) })
	}
}
