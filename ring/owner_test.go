package ring_test

import (
	"math/rand"
	"slices"
	"testing"

	"spindle/api"
	"spindle/ring"
)

// scribble writes all over l and behind it.
func scribble(l []api.Span) {
	l = l[:cap(l)]
	for i := range l {
		l[i] = api.Span{At: -7, Len: 1 << 40}
	}
}

// What came out is scribbled over, and changes nothing of what the ring tells, or gives and takes later.
func TestSpansAreTheirOwners(t *testing.T) {
	all(t, func(t *testing.T, r *ring.Ring, p *plain) {
		scribble(r.Live())
		wantIs(t, r, p)
		for _, n := range []int{p.free(), 0} {
			l, _ := r.Take(n)
			p.take(n)
			scribble(l)
			wantIs(t, r, p)
		}
		for _, n := range []int{len(p.used) / 2, 0, len(p.used) - len(p.used)/2} {
			l, _ := r.Give(n)
			p.give(n)
			scribble(l)
			wantIs(t, r, p)
		}
		want, _ := p.take(p.size)
		wantTake(t, r, p.size, want, api.OK)
		wantIs(t, r, p)
	})
}

// calls are all that come out as spans.
func calls() []func(r *ring.Ring) []api.Span {
	return []func(r *ring.Ring) []api.Span{
		(*ring.Ring).Live,
		func(r *ring.Ring) []api.Span {
			l, _ := r.Take(min(4, r.Free()))
			return l
		},
		func(r *ring.Ring) []api.Span {
			l, _ := r.Give(min(4, r.Used()))
			return l
		},
	}
}

// One after the other, nothing that comes out is changed by what comes out later, or by writing into that.
func TestSpansStandAlone(t *testing.T) {
	for _, first := range calls() {
		for _, second := range calls() {
			r := made(t, 9, 7, 5)
			kept := first(r)
			want := slices.Clone(kept)
			scribble(second(r))
			for range 20 {
				for _, other := range calls() {
					scribble(other(r))
				}
			}
			if !slices.Equal(kept, want) {
				t.Errorf("what came out before: %v; want %v", kept, want)
			}
			// Behind what comes out is room that nothing else uses either.
			scribble(kept)
			kept = second(r)
			want = slices.Clone(kept)
			scribble(first(r))
			if !slices.Equal(kept, want) {
				t.Errorf("what came out before: %v; want %v", kept, want)
			}
		}
	}
}

// Each ring goes its own way, also where they began alike.
func TestRingsDoNotKnowOfEachOther(t *testing.T) {
	source := rand.New(rand.NewSource(11))
	rings, plains := []*ring.Ring{}, []*plain{}
	for i := range 6 {
		size := 8 + i/3
		rings, plains = append(rings, made(t, size, 5, 4)), append(plains, plainOf(size, 5, 4))
	}
	for range 2000 {
		i := source.Intn(len(rings))
		step(t, source, rings[i], plains[i])
		for j, r := range rings {
			wantIs(t, r, plains[j])
		}
	}
}

// The same calls of rings that began alike answer the same.
func TestAlikeRingsStayAlike(t *testing.T) {
	a, b := made(t, 11, 9, 3), made(t, 11, 9, 3)
	source := rand.New(rand.NewSource(12))
	for range 500 {
		n := source.Intn(6)
		want, wantE := a.Take(n)
		wantTake(t, b, n, want, wantE)
		n = source.Intn(6)
		want, wantE = a.Give(n)
		wantGive(t, b, n, want, wantE)
		if !slices.Equal(a.Live(), b.Live()) {
			t.Fatalf("Live: %v, %v", a.Live(), b.Live())
		}
	}
}
