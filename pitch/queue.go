package pitch

// A queue holds items in the order in which they came.
type queue[T any] struct{ items []T }

func (q *queue[T]) push(item T) { q.items = append(q.items, item) }
func (q *queue[T]) drop()       { q.items = q.items[1:] }
func (q *queue[T]) size() int   { return len(q.items) }
func (q *queue[T]) at(i int) T  { return q.items[i] }
