package lift

import "container/heap"

// place is where a patch belongs.
type place struct {
	row    int
	member int
}

// before says whether a patch of this place is placed ahead of one of the other, on one way upwards.
func (p place) before(other place) bool {
	if p.row != other.row {
		return p.row < other.row
	}
	return p.member < other.member
}

// queue is a heap of places: the first one on the way upwards is the first one out.
type queue []place

// Len, Less, Swap, Push and Pop are what container/heap asks for.
func (q queue) Len() int { return len(q) }

func (q queue) Less(i, j int) bool { return q[i].before(q[j]) }

func (q queue) Swap(i, j int) { q[i], q[j] = q[j], q[i] }

func (q *queue) Push(at any) { *q = append(*q, at.(place)) }

func (q *queue) Pop() any {
	last := len(*q) - 1
	at := (*q)[last]
	*q = (*q)[:last]
	return at
}

// add lays a place in.
func (q *queue) add(at place) { heap.Push(q, at) }

// take takes the first place out; there is one.
func (q *queue) take() place { return heap.Pop(q).(place) }
