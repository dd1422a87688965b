package letter

// queue is a heap of tallies.
type queue struct {
	tallies []*tally
	better  func(a, b *tally) bool
}

// first is the best tally of a queue that is not empty.
func (q *queue) first() *tally { return q.tallies[0] }

func (q *queue) Len() int { return len(q.tallies) }

func (q *queue) Less(i, j int) bool { return q.better(q.tallies[i], q.tallies[j]) }

func (q *queue) Swap(i, j int) {
	q.tallies[i], q.tallies[j] = q.tallies[j], q.tallies[i]
	q.tallies[i].place, q.tallies[j].place = i, j
}

func (q *queue) Push(added any) {
	t := added.(*tally)
	t.place = len(q.tallies)
	q.tallies = append(q.tallies, t)
}

func (q *queue) Pop() any {
	last := len(q.tallies) - 1
	t := q.tallies[last]
	q.tallies = q.tallies[:last]
	return t
}
