package ring_test

import (
	"testing"

	"spindle/api"
	"spindle/ring"
)

// amounts are numbers of places, around all edges of a ring.
func amounts(p *plain) []int {
	l := []int{-p.size, -p.free() - 1, -2, -1, 0, 1, 2, p.size - 1, p.size, p.size + 1, 2*p.size + 1}
	l = append(l, p.free()-1, p.free(), p.free()+1, len(p.used)-1, len(p.used), len(p.used)+1)
	return append(l, extremes()...)
}

// again is a plain ring like p.
func again(p *plain) *plain { return plainOf(p.size, p.tail, len(p.used)) }

func TestTakeOfEachAmount(t *testing.T) {
	all(t, func(t *testing.T, r *ring.Ring, p *plain) {
		for _, n := range amounts(p) {
			r, p := made(t, p.size, p.tail, len(p.used)), again(p)
			want, wantE := p.take(n)
			wantTake(t, r, n, want, wantE)
			wantIs(t, r, p)
			wantPlaces(t, r, p)
		}
	})
}

func TestGiveOfEachAmount(t *testing.T) {
	all(t, func(t *testing.T, r *ring.Ring, p *plain) {
		for _, n := range amounts(p) {
			r, p := made(t, p.size, p.tail, len(p.used)), again(p)
			want, wantE := p.give(n)
			wantGive(t, r, n, want, wantE)
			wantIs(t, r, p)
			wantPlaces(t, r, p)
		}
	})
}

// A number below 0 is told as such, also where nothing is free or nothing is used.
func TestOrderOfErrors(t *testing.T) {
	for _, n := range []int{-1, -2, -5, -6} {
		for _, used := range []int{0, 3, 5} {
			wantTake(t, made(t, 5, 4, used), n, nil, api.ErrArg)
			wantGive(t, made(t, 5, 4, used), n, nil, api.ErrArg)
		}
	}
}

func TestTakeAndGiveAtTheEdges(t *testing.T) {
	full, empty := made(t, 5, 2, 5), made(t, 5, 2, 0)
	wantTake(t, full, 0, nil, api.OK)
	wantTake(t, full, 1, nil, api.ErrRingFull)
	wantGive(t, full, 6, nil, api.ErrRingLess)
	wantGive(t, empty, 0, nil, api.OK)
	wantGive(t, empty, 1, nil, api.ErrRingLess)
	wantTake(t, empty, 6, nil, api.ErrRingFull)
	wantIs(t, full, plainOf(5, 2, 5))
	wantIs(t, empty, plainOf(5, 2, 0))
}

func TestAt(t *testing.T) {
	all(t, func(t *testing.T, r *ring.Ring, p *plain) {
		wantPlaces(t, r, p)
		for _, i := range append([]int{-p.size, -2, p.size + 1, 2 * p.size}, extremes()...) {
			wantAt(t, r, i, 0, api.ErrRange)
		}
	})
}

// Which places are in use means nothing to At.
func TestAtIsOfAllPlaces(t *testing.T) {
	for used := range 6 {
		r := made(t, 5, 3, used)
		for i, want := range []int{3, 4, 0, 1, 2} {
			wantAt(t, r, i, want, api.OK)
		}
	}
}

func TestAtOfTheGreatestRing(t *testing.T) {
	r := made(t, 2048, 2047, 7)
	wantPlaces(t, r, plainOf(2048, 2047, 7))
	wantAt(t, r, 2047, 2046, api.OK)
	wantAt(t, r, 2048, 0, api.ErrRange)
}

func TestAnErrorChangesNothing(t *testing.T) {
	all(t, func(t *testing.T, r *ring.Ring, p *plain) {
		for _, n := range append([]int{-1, -p.size, p.size + 1}, extremes()...) {
			r.At(n)
			r.Take(n)
			r.Give(n)
			wantIs(t, r, p)
		}
		r.Take(p.free() + 1)
		r.Give(len(p.used) + 1)
		r.At(p.size)
		wantIs(t, r, p)
		wantPlaces(t, r, p)
	})
}

// What only tells of a ring leaves it alone.
func TestAskingChangesNothing(t *testing.T) {
	all(t, func(t *testing.T, r *ring.Ring, p *plain) {
		for range 2 {
			wantIs(t, r, p)
			wantPlaces(t, r, p)
		}
	})
}
