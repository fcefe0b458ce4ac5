package ring_test

import (
	"math/rand"
	"slices"
	"testing"

	"spindle/api"
	"spindle/ring"
)

// Places are taken and given one by one, many times round: each follows the one ahead.
func TestCyclicOrder(t *testing.T) {
	all(t, func(t *testing.T, r *ring.Ring, p *plain) {
		head, tail := p.head(), p.tail
		for range 5 * p.size {
			if r.Free() > 0 {
				wantTake(t, r, 1, spans([2]int{head, 1}), api.OK)
				head = p.next(head)
			}
			wantGive(t, r, 1, spans([2]int{tail, 1}), api.OK)
			tail = p.next(tail)
		}
	})
}

// What was taken is given in the same order, however both are divided.
func TestGivenAsTaken(t *testing.T) {
	for take := 1; take <= 7; take++ {
		for give := 1; give <= take; give++ {
			r := made(t, 7, 3, 0)
			taken, given := []int{}, []int{}
			for range 40 {
				for r.Used() > 7-take {
					given = append(given, wellGiven(t, r, min(give, r.Used()))...)
				}
				taken = append(taken, wellTaken(t, r, take)...)
			}
			given = append(given, wellGiven(t, r, r.Used())...)
			if !slices.Equal(taken, given) {
				t.Fatalf("take %d, give %d: %v taken, %v given", take, give, taken, given)
			}
			for i, at := range taken {
				if at != (3+i)%7 {
					t.Fatalf("take %d, give %d: place %d taken as number %d", take, give, at, i)
				}
			}
		}
	}
}

// wellTaken takes places which, as Live had it, were free, the first of which is the head.
func wellTaken(t *testing.T, r *ring.Ring, n int) []int {
	t.Helper()
	before, head := placesOf(r.Live()), r.Head()
	l, e := r.Take(n)
	if e != api.OK {
		t.Fatalf("Take(%d): %v", n, e)
	}
	taken := placesOf(l)
	if len(taken) != n || n > 0 && taken[0] != head {
		t.Fatalf("Take(%d) from %d on: %v", n, head, l)
	}
	for _, at := range taken {
		if slices.Contains(before, at) {
			t.Fatalf("Take(%d): place %d was used", n, at)
		}
	}
	if live := placesOf(r.Live()); !slices.Equal(live, append(before, taken...)) {
		t.Fatalf("Take(%d): Live: %v", n, live)
	}
	return taken
}

// wellGiven gives places back which, as Live had it, were the first ones that are used.
func wellGiven(t *testing.T, r *ring.Ring, n int) []int {
	t.Helper()
	before := placesOf(r.Live())
	l, e := r.Give(n)
	if e != api.OK {
		t.Fatalf("Give(%d): %v", n, e)
	}
	given, live := placesOf(l), placesOf(r.Live())
	if !slices.Equal(given, before[:n]) || !slices.Equal(live, before[n:]) {
		t.Fatalf("Give(%d): %v were used; %v given, %v left", n, before, given, live)
	}
	return given
}

// Live has exactly Used places, each of them once and each of them one of the ring, in two spans at most.
func wantWellFormed(t *testing.T, r *ring.Ring) {
	t.Helper()
	l, seen := r.Live(), map[int]int{}
	for _, s := range l {
		if s.Len < 1 || s.At < 0 || s.At+s.Len > r.Size() {
			t.Fatalf("Live: span %v of %d places", s, r.Size())
		}
	}
	if len(l) > 2 || len(l) == 2 && (l[0].At+l[0].Len != r.Size() || l[1].At != 0) {
		t.Fatalf("Live: %v of %d places", l, r.Size())
	}
	for _, at := range placesOf(l) {
		seen[at]++
		if seen[at] > 1 {
			t.Fatalf("Live: %v has %d twice", l, at)
		}
	}
	if len(seen) != r.Used() || r.Used()+r.Free() != r.Size() {
		t.Fatalf("Live: %v; %d used, %d free of %d", l, r.Used(), r.Free(), r.Size())
	}
	if len(l) > 0 && l[0].At != r.Tail() {
		t.Fatalf("Live: %v; tail %d", l, r.Tail())
	}
}

func TestLiveOfEachSmallRing(t *testing.T) {
	all(t, func(t *testing.T, r *ring.Ring, p *plain) { wantWellFormed(t, r) })
}

// step takes or gives at random, now and then more than there is.
func step(t *testing.T, source *rand.Rand, r *ring.Ring, p *plain) {
	t.Helper()
	if source.Intn(2) == 0 {
		n := source.Intn(p.free()+3) - 1
		want, wantE := p.take(n)
		wantTake(t, r, n, want, wantE)
	} else {
		n := source.Intn(len(p.used)+3) - 1
		want, wantE := p.give(n)
		wantGive(t, r, n, want, wantE)
	}
	wantIs(t, r, p)
	wantWellFormed(t, r)
	i := source.Intn(p.size)
	at := p.tail
	for range i {
		at = p.next(at)
	}
	wantAt(t, r, i, at, api.OK)
}

func TestAtRandom(t *testing.T) {
	source := rand.New(rand.NewSource(9))
	for range 200 {
		size := 5 + source.Intn(40)
		tail, used := source.Intn(size), source.Intn(size+1)
		r, p := made(t, size, tail, used), plainOf(size, tail, used)
		for range 100 {
			step(t, source, r, p)
		}
	}
}

func TestAtRandomInTheGreatestRing(t *testing.T) {
	source := rand.New(rand.NewSource(10))
	r, p := made(t, 2048, 2000, 30), plainOf(2048, 2000, 30)
	for range 300 {
		step(t, source, r, p)
	}
}
