package ring_test

import (
	"testing"

	"spindle/api"
	"spindle/ring"
)

func TestDocumentExamples(t *testing.T) {
	r := made(t, 5, 3, 0)
	wantIs(t, r, plainOf(5, 3, 0))
	wantTake(t, r, 4, spans([2]int{3, 2}, [2]int{0, 2}), api.OK)
	if r.Head() != 2 {
		t.Errorf("Head: %d", r.Head())
	}
	wantLive(t, r, spans([2]int{3, 2}, [2]int{0, 2})...)
	wantTake(t, r, 2, nil, api.ErrRingFull)
	wantGive(t, r, 3, spans([2]int{3, 2}, [2]int{0, 1}), api.OK)
	if r.Tail() != 1 {
		t.Errorf("Tail: %d", r.Tail())
	}
	wantLive(t, r, api.Span{At: 1, Len: 1})
	wantGive(t, r, 2, nil, api.ErrRingLess)

	wantTake(t, r, 0, nil, api.OK)
	wantTake(t, r, -1, nil, api.ErrArg)
	wantAt(t, r, 4, 0, api.OK)
	wantAt(t, r, 5, 0, api.ErrRange)

	r = made(t, 5, 2, 5)
	wantIs(t, r, plainOf(5, 2, 5))
	wantLive(t, r, spans([2]int{2, 3}, [2]int{0, 2})...)
	wantRefused(t, 4, 0, 0)
	wantRefused(t, 5, 5, 0)
	wantRefused(t, 5, 0, 6)
}

// drawn is a run of places of a ring of 6, and its spans.
type drawn struct {
	name  string
	first int
	n     int
	want  []api.Span
}

func runs() []drawn {
	return []drawn{
		{"none at the first place", 0, 0, nil},
		{"none between", 2, 0, nil},
		{"none at the last place", 5, 0, nil},
		{"one, the first place", 0, 1, spans([2]int{0, 1})},
		{"one between", 3, 1, spans([2]int{3, 1})},
		{"one, the last place", 5, 1, spans([2]int{5, 1})},
		{"from the first place", 0, 3, spans([2]int{0, 3})},
		{"from the first place to the one ahead of the last", 0, 5, spans([2]int{0, 5})},
		{"between", 2, 3, spans([2]int{2, 3})},
		{"to the last place", 2, 4, spans([2]int{2, 4})},
		{"the last two", 4, 2, spans([2]int{4, 2})},
		{"round by one", 2, 5, spans([2]int{2, 4}, [2]int{0, 1})},
		{"the last and the first place", 5, 2, spans([2]int{5, 1}, [2]int{0, 1})},
		{"round from the last place", 5, 4, spans([2]int{5, 1}, [2]int{0, 3})},
		{"round from between", 4, 4, spans([2]int{4, 2}, [2]int{0, 2})},
		{"all from the first place", 0, 6, spans([2]int{0, 6})},
		{"all from the second place", 1, 6, spans([2]int{1, 5}, [2]int{0, 1})},
		{"all from between", 3, 6, spans([2]int{3, 3}, [2]int{0, 3})},
		{"all from the last place", 5, 6, spans([2]int{5, 1}, [2]int{0, 5})},
	}
}

func TestSpansOfTake(t *testing.T) {
	for _, x := range runs() {
		t.Run(x.name, func(t *testing.T) {
			r := made(t, 6, x.first, 0)
			wantTake(t, r, x.n, x.want, api.OK)
			wantIs(t, r, plainOf(6, x.first, x.n))
		})
	}
}

// The head is where the run begins; what is used stands ahead of it.
func TestSpansOfTakeBehindUsedPlaces(t *testing.T) {
	for _, x := range runs() {
		t.Run(x.name, func(t *testing.T) {
			for used := range 6 - x.n + 1 {
				tail := (x.first + 6 - used) % 6
				r := made(t, 6, tail, used)
				wantTake(t, r, x.n, x.want, api.OK)
				wantIs(t, r, plainOf(6, tail, used+x.n))
			}
		})
	}
}

func TestSpansOfGive(t *testing.T) {
	for _, x := range runs() {
		t.Run(x.name, func(t *testing.T) {
			for used := x.n; used <= 6; used++ {
				r := made(t, 6, x.first, used)
				wantGive(t, r, x.n, x.want, api.OK)
				wantIs(t, r, plainOf(6, (x.first+x.n)%6, used-x.n))
			}
		})
	}
}

func TestSpansOfLive(t *testing.T) {
	for _, x := range runs() {
		t.Run(x.name, func(t *testing.T) {
			wantLive(t, made(t, 6, x.first, x.n), x.want...)
		})
	}
}

func TestSpansOfTheGreatestRing(t *testing.T) {
	r := made(t, 2048, 2047, 0)
	wantTake(t, r, 2048, spans([2]int{2047, 1}, [2]int{0, 2047}), api.OK)
	wantLive(t, r, spans([2]int{2047, 1}, [2]int{0, 2047})...)
	wantGive(t, r, 1, spans([2]int{2047, 1}), api.OK)
	wantLive(t, r, api.Span{At: 0, Len: 2047})
	wantTake(t, r, 1, spans([2]int{2047, 1}), api.OK)
	wantLive(t, r, api.Span{At: 0, Len: 2048})
	wantGive(t, r, 2048, spans([2]int{0, 2048}), api.OK)
	wantIs(t, r, plainOf(2048, 0, 0))
}

// Where all places are given back, the tail goes on to the head.
func TestTakeAllAndGiveAll(t *testing.T) {
	all(t, func(t *testing.T, r *ring.Ring, p *plain) {
		for _, n := range []int{0, p.free()} {
			taken, e := p.take(n)
			wantTake(t, r, n, taken, e)
			wantIs(t, r, p)
		}
		given, e := p.give(p.size)
		wantGive(t, r, p.size, given, e)
		wantIs(t, r, p)
	})
}
