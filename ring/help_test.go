package ring_test

import (
	"math"
	"slices"
	"testing"

	"spindle/api"
	"spindle/ring"
)

// plain is a ring with its used places in a list, one by one, from the tail on; it divides nothing.
type plain struct {
	size int
	tail int
	used []int
}

func plainOf(size, tail, used int) *plain {
	p := &plain{size: size, tail: tail}
	for range used {
		p.used = append(p.used, p.head())
	}
	return p
}

// next is the place that follows.
func (p *plain) next(at int) int {
	if at == p.size-1 {
		return 0
	}
	return at + 1
}

func (p *plain) head() int {
	at := p.tail
	for range p.used {
		at = p.next(at)
	}
	return at
}

func (p *plain) free() int { return p.size - len(p.used) }

func (p *plain) take(n int) ([]api.Span, api.Errno) {
	switch {
	case n < 0:
		return nil, api.ErrArg
	case n > p.free():
		return nil, api.ErrRingFull
	}
	taken := []int{}
	for range n {
		taken = append(taken, p.head())
		p.used = append(p.used, p.head())
	}
	return spansOf(taken), api.OK
}

func (p *plain) give(n int) ([]api.Span, api.Errno) {
	switch {
	case n < 0:
		return nil, api.ErrArg
	case n > len(p.used):
		return nil, api.ErrRingLess
	}
	given := slices.Clone(p.used[:n])
	p.used = p.used[n:]
	for range n {
		p.tail = p.next(p.tail)
	}
	return spansOf(given), api.OK
}

// spansOf joins each place to the one ahead, if it is by one greater.
func spansOf(places []int) []api.Span {
	l := []api.Span{}
	for i, at := range places {
		if i > 0 && at == places[i-1]+1 {
			l[len(l)-1].Len++
		} else {
			l = append(l, api.Span{At: at, Len: 1})
		}
	}
	return l
}

// placesOf undoes spansOf.
func placesOf(l []api.Span) []int {
	places := []int{}
	for _, s := range l {
		for i := range s.Len {
			places = append(places, s.At+i)
		}
	}
	return places
}

// spans are of pairs of a first place and a number.
func spans(pairs ...[2]int) []api.Span {
	l := []api.Span{}
	for _, p := range pairs {
		l = append(l, api.Span{At: p[0], Len: p[1]})
	}
	return l
}

// extremes are as great and as small as an int holds, or nearly so; some have a small number in their lowest bytes.
func extremes() []int {
	return []int{
		math.MaxInt, math.MaxInt - 1, math.MaxInt - 4, math.MinInt, math.MinInt + 1, math.MinInt + 5,
		1<<31 - 1, 1 << 31, 1<<32 + 1, -1 << 31, -1<<31 + 2, -1<<32 + 3, 65536 + 2, -65536 + 2, -256 + 3,
	}
}

func made(t *testing.T, size, tail, used int) *ring.Ring {
	t.Helper()
	r, e := ring.New(size, tail, used)
	if r == nil || e != api.OK {
		t.Fatalf("New(%d, %d, %d): %v, %v", size, tail, used, r, e)
	}
	return r
}

func wantRefused(t *testing.T, size, tail, used int) {
	t.Helper()
	if r, e := ring.New(size, tail, used); r != nil || e != api.ErrArg {
		t.Errorf("New(%d, %d, %d): %v, %v; want nil, ErrArg", size, tail, used, r, e)
	}
}

// wantIs holds all that a ring tells of itself against a plain one, except for each single place.
func wantIs(t *testing.T, r *ring.Ring, p *plain) {
	t.Helper()
	got := [5]int{r.Size(), r.Tail(), r.Head(), r.Used(), r.Free()}
	if want := [5]int{p.size, p.tail, p.head(), len(p.used), p.free()}; got != want {
		t.Fatalf("size, tail, head, used and free: %v; want %v", got, want)
	}
	if l, want := r.Live(), spansOf(p.used); !slices.Equal(l, want) {
		t.Fatalf("tail %d: Live: %v; want %v", p.tail, l, want)
	}
}

// wantPlaces holds At against a plain ring, on both sides of its edges too.
func wantPlaces(t *testing.T, r *ring.Ring, p *plain) {
	t.Helper()
	want := p.tail
	for i := range p.size {
		wantAt(t, r, i, want, api.OK)
		want = p.next(want)
	}
	wantAt(t, r, -1, 0, api.ErrRange)
	wantAt(t, r, p.size, 0, api.ErrRange)
}

func wantAt(t *testing.T, r *ring.Ring, i, want int, wantE api.Errno) {
	t.Helper()
	if at, e := r.At(i); at != want || e != wantE {
		t.Errorf("tail %d: At(%d): %d, %v; want %d, %v", r.Tail(), i, at, e, want, wantE)
	}
}

func wantTake(t *testing.T, r *ring.Ring, n int, want []api.Span, wantE api.Errno) {
	t.Helper()
	if l, e := r.Take(n); !slices.Equal(l, want) || e != wantE {
		t.Errorf("Take(%d): %v, %v; want %v, %v", n, l, e, want, wantE)
	}
}

func wantGive(t *testing.T, r *ring.Ring, n int, want []api.Span, wantE api.Errno) {
	t.Helper()
	if l, e := r.Give(n); !slices.Equal(l, want) || e != wantE {
		t.Errorf("Give(%d): %v, %v; want %v, %v", n, l, e, want, wantE)
	}
}

func wantLive(t *testing.T, r *ring.Ring, want ...api.Span) {
	t.Helper()
	if l := r.Live(); !slices.Equal(l, want) {
		t.Errorf("Live: %v; want %v", l, want)
	}
}

// all does something with a ring of each small size, with every tail and every number of used places, and with a plain one beside it.
func all(t *testing.T, do func(t *testing.T, r *ring.Ring, p *plain)) {
	t.Helper()
	for size := 5; size <= 10; size++ {
		for tail := range size {
			for used := range size + 1 {
				do(t, made(t, size, tail, used), plainOf(size, tail, used))
			}
		}
	}
}
