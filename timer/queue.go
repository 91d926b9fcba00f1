package timer

// item is an id and its time.
type item struct{ id, at int }

// queue is a heap of items, with the index of each id.
type queue struct {
	l  []item
	at map[int]int
}

func (q *queue) first() item { return q.l[0] }

func (q *queue) Len() int { return len(q.l) }

func (q *queue) Less(i, j int) bool {
	a, b := q.l[i], q.l[j]
	if a.at != b.at {
		return a.at < b.at
	}
	return a.id < b.id
}

func (q *queue) Swap(i, j int) {
	q.l[i], q.l[j] = q.l[j], q.l[i]
	q.at[q.l[i].id], q.at[q.l[j].id] = i, j
}

func (q *queue) Push(x any) {
	it := x.(item)
	if q.at == nil {
		q.at = map[int]int{}
	}
	q.at[it.id] = len(q.l)
	q.l = append(q.l, it)
}

func (q *queue) Pop() any {
	last := len(q.l) - 1
	it := q.l[last]
	q.l = q.l[:last]
	delete(q.at, it.id)
	return it
}
