package wheel

// queue: the timers that are armed, as a heap: the one that is due first is the first one. Each knows its place.
type queue []*timer

// Len: how many there are.
func (q queue) Len() int { return len(q) }

// Less: whether the one at i is due ahead of the one at j.
func (q queue) Less(i, j int) bool { return q[i].before(q[j]) < 0 }

// Swap: both change places.
func (q queue) Swap(i, j int) {
	q[i], q[j] = q[j], q[i]
	q[i].place, q[j].place = i, j
}

// Push: a timer at the end.
func (q *queue) Push(x any) {
	if t, ok := x.(*timer); ok {
		t.place = len(*q)
		*q = append(*q, t)
	}
}

// Pop: takes the last one away.
func (q *queue) Pop() any {
	last := len(*q) - 1
	t := (*q)[last]
	t.place = notArmed
	(*q)[last] = nil
	*q = (*q)[:last]
	return t
}
