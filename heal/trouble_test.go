package heal_test

import (
	"math/rand"
	"slices"
	"testing"

	"spindle/api"
)

// wantHalf wants a new disk to have so many rows of a stripe in its cache, and nothing of it for good; once they are flushed, they are right.
func (x *pair) wantHalf(member, stripe, written int) {
	x.t.Helper()
	x.wantRebuilt(member)
	first := 1 + stripe*x.g.Chunk
	want := []int{}
	for i := range written {
		want = append(want, first+i)
	}
	if got := x.b.Pending(member); !slices.Equal(got, want) {
		x.t.Fatalf("%v: Step(%d, %d): written %v; want %v", x.g, member, stripe, got, want)
	}
	for _, b := range x.bays() {
		b.Flush(member)
	}
	for at := range rowsOf(x.g) + 2 {
		data := string(noise(member, at))
		if at >= first && at < first+written {
			data = x.holds[spot{member, at - 1}]
		}
		if x.durable(member, at) != data {
			x.t.Fatalf("%v: Step(%d, %d) of %d rows: sector %d is another one", x.g, member, stripe, written, at)
		}
	}
}

// troubled are geometries, members and stripes for whose Steps there is trouble here.
func troubled() []struct {
	g              api.Geometry
	member, stripe int
} {
	return []struct {
		g              api.Geometry
		member, stripe int
	}{
		{three(), 1, 0}, {three(), 0, 1}, {three(), 2, 0}, {shape(3, 2, 4), 2, 3}, {shape(4, 2, 5), 1, 1}, {shape(4, 2, 5), 0, 4},
		{shape(5, 3, 2), 4, 1}, {shape(5, 3, 2), 2, 0}, {shape(4, 16, 2), 3, 0}, {shape(16, 2, 1), 7, 0},
	}
}

// Another member's disk fails at one of the stripe's rows: what is ahead of that row is written, and nothing is flushed.
func TestOtherWearsOut(t *testing.T) {
	for _, c := range troubled() {
		for k := range c.g.Members - 1 {
			for n := range c.g.Chunk + 1 {
				x := made(t, c.g, false)
				other := x.others(c.member)[k]
				x.renew(c.member, 0)
				x.wear(other, n)
				if n == c.g.Chunk { // it fails only behind the last of its reads
					x.step(c.member, c.stripe, noTrouble())
					x.wantRebuilt(c.member, c.stripe)
					continue
				}
				x.spend(c.member, c.stripe, of(other, api.ErrFailed), n*(c.g.Members-1)+k+1, n, 0)
				x.wantHalf(c.member, c.stripe, n)
			}
		}
	}
}

// Another member's disk has failed, or is not there.
func TestOtherIsGone(t *testing.T) {
	for _, c := range troubled() {
		for k := range c.g.Members - 1 {
			x := made(t, c.g, false)
			other := x.others(c.member)[k]
			x.renew(c.member, 0)
			x.fail(other)
			x.spend(c.member, c.stripe, of(other, api.ErrFailed), k+1, 0, 0)
			x.wantHalf(c.member, c.stripe, 0)

			x = made(t, c.g, false)
			x.renew(c.member, 0)
			x.pull(other)
			x.spend(c.member, c.stripe, of(other, api.ErrBayEmpty), k+1, 0, 0)
			x.wantHalf(c.member, c.stripe, 0)
		}
	}
}

// Of several that are gone the first one is told.
func TestSeveralAreGone(t *testing.T) {
	for m := range 4 {
		for i := range 3 {
			for k := range i {
				x := made(t, shape(4, 2, 5), false)
				others := x.others(m)
				x.renew(m, 0)
				x.fail(others[i])
				x.pull(others[k])
				x.fail(m)
				x.spend(m, 3, of(others[k], api.ErrBayEmpty), k+1, 0, 0)
			}
		}
	}
}

// Another member is down too, from the stripe's first row on, from a row within it on, or from the next stripe on: from there on it is lost, which is told ahead of that row's operations.
func TestOtherIsDown(t *testing.T) {
	for _, c := range troubled() {
		first := c.stripe * c.g.Chunk
		for k := range c.g.Members - 1 {
			for from := max(0, first-1); from <= first+c.g.Chunk; from++ {
				x := made(t, c.g, false)
				x.renew(c.member, 0)
				x.mark(x.others(c.member)[k], true, from)
				n := max(0, from-first)
				if n == c.g.Chunk {
					x.step(c.member, c.stripe, noTrouble())
					x.wantRebuilt(c.member, c.stripe)
					continue
				}
				x.spend(c.member, c.stripe, without(api.ErrPlanLost), n*(c.g.Members-1), n, 0)
				x.wantHalf(c.member, c.stripe, n)
			}
		}
	}
}

// All others are down, or their disks are gone besides: it is lost all the same.
func TestAllAreDown(t *testing.T) {
	x := made(t, shape(4, 2, 5), false)
	for m := range 4 {
		x.renew(m, 0)
		x.fail(m)
	}
	for m := range 4 {
		for s := range 5 {
			x.spend(m, s, without(api.ErrPlanLost), 0, 0, 0)
		}
	}
	x.trip(0)
	x.spend(1, 1, without(api.ErrPlanLost), 0, 0, 0)
	if x.b.Dark() {
		t.Errorf("the trip was spent")
	}
}

// The new disk fails at a write, or at the flush.
func TestNewDiskWearsOut(t *testing.T) {
	for _, c := range troubled() {
		for n := range c.g.Chunk + 2 {
			x := made(t, c.g, false)
			x.renew(c.member, 0)
			x.wear(c.member, n)
			u, flushes := of(c.member, api.ErrFailed), 0
			if n > c.g.Chunk {
				u = noTrouble()
			}
			if n >= c.g.Chunk {
				flushes = 1
			}
			written := min(n+1, c.g.Chunk) // the one that fails is counted too
			x.spend(c.member, c.stripe, u, written*(c.g.Members-1), written, flushes)
			if x.b.Has(c.member) != (n > c.g.Chunk) {
				t.Errorf("%v: behind %d operations it has failed: %v", c.g, n, !x.b.Has(c.member))
			}
		}
	}
}

// There is no new disk, or it has failed already: that is found out by the first write.
func TestNewDiskIsGone(t *testing.T) {
	for _, c := range troubled() {
		for _, e := range []api.Errno{api.ErrFailed, api.ErrBayEmpty} {
			x := made(t, c.g, false)
			x.mark(c.member, true, 0)
			if e == api.ErrFailed {
				x.fail(c.member)
			} else {
				x.pull(c.member)
			}
			x.spend(c.member, c.stripe, of(c.member, e), c.g.Members-1, 1, 0)
		}
	}
}

// The new disk doesn't have all of the stripe's rows: those that it has are written, and not flushed.
func TestNewDiskIsTooSmall(t *testing.T) {
	for _, c := range troubled() {
		first := 1 + c.stripe*c.g.Chunk
		for sectors := first; sectors <= first+c.g.Chunk; sectors++ {
			x := made(t, c.g, false)
			x.mark(c.member, true, 0)
			x.swap(c.member, sectors)
			n := sectors - first
			if n == c.g.Chunk {
				x.spend(c.member, c.stripe, noTrouble(), n*(c.g.Members-1), n, 1)
				continue
			}
			x.spend(c.member, c.stripe, of(c.member, api.ErrRange), (n+1)*(c.g.Members-1), n+1, 0)
			want := []int{}
			for i := range n {
				want = append(want, first+i)
			}
			if got := x.b.Pending(c.member); !slices.Equal(got, want) {
				t.Errorf("%v: %d sectors: written %v; want %v", c.g, sectors, got, want)
			}
		}
	}
}

// The power goes at each operation; then what was written is kept or not, and the Step can be made again.
func TestPowerGoes(t *testing.T) {
	for _, c := range troubled() {
		l := operations(c.g, c.member, c.stripe)
		for n := range l {
			for _, kept := range []bool{false, true} {
				x := made(t, c.g, false)
				x.renew(c.member, 0)
				x.trip(n)
				x.step(c.member, c.stripe, of(l[n].slot, api.ErrBayDark))
				_, written, _ := countsOf(l[:n])
				x.spend(c.member, c.stripe, of(l[0].slot, api.ErrBayDark), 0, 0, 0) // there is none yet
				if kept {
					x.wantHalfKept(c.member, c.stripe, written)
				} else {
					x.cut()
					x.wantRebuilt(c.member)
				}
				x.step(c.member, c.stripe, noTrouble())
				x.wantRebuilt(c.member, c.stripe)
			}
		}
	}
}

// wantHalfKept cuts so that all writes of a new disk are kept, and wants just those to be there.
func (x *pair) wantHalfKept(member, stripe, written int) {
	x.t.Helper()
	keeps := make([][]bool, member+1)
	keeps[member] = slices.Repeat([]bool{true}, written)
	x.cut(keeps...)
	for i := range x.g.Chunk {
		row := stripe*x.g.Chunk + i
		want := string(noise(member, 1+row))
		if i < written {
			want = x.holds[spot{member, row}]
		}
		if x.durable(member, 1+row) != want {
			x.t.Fatalf("%v: %d rows were kept, and row %d is another one", x.g, written, row)
		}
	}
}

// Behind a trouble a Step can be made again, once its cause is gone; the rows that were written do no harm.
func TestAgainBehindATrouble(t *testing.T) {
	for _, c := range troubled() {
		x := made(t, c.g, false)
		other := x.others(c.member)[0]
		x.renew(c.member, 0)
		x.mark(other, true, c.stripe*c.g.Chunk+c.g.Chunk-1)
		x.step(c.member, c.stripe, without(api.ErrPlanLost))
		x.mark(other, false, 0)
		x.step(c.member, c.stripe, noTrouble())
		x.wantRebuilt(c.member, c.stripe)

		x.swap(c.member, rowsOf(c.g)+2)
		x.wear(c.member, c.g.Chunk-1)
		x.step(c.member, c.stripe, of(c.member, api.ErrFailed))
		x.renew(c.member, 0)
		x.step(c.member, c.stripe, noTrouble())
		x.wantRebuilt(c.member, c.stripe)
	}
}

// harm does something to the bays, at random.
func (x *pair) harm(d *rand.Rand) {
	x.t.Helper()
	slot := d.Intn(x.g.Members + 1)
	switch d.Intn(8) {
	case 0:
		x.fail(slot)
	case 1:
		x.pull(slot)
	case 2:
		x.wear(slot, d.Intn(9))
	case 3, 4:
		x.trip(d.Intn(40))
	case 5:
		x.mark(d.Intn(x.g.Members), true, d.Intn(rowsOf(x.g)+1))
	case 6:
		x.mark(d.Intn(x.g.Members), false, 0)
	case 7:
		if slot < x.g.Members {
			x.swap(slot, d.Intn(rowsOf(x.g)+2)+1)
		}
	}
}

// Whatever has become of the disks, and whatever waits: a Step is as the words of the chapters have it.
func TestAnything(t *testing.T) {
	for seed := range 1500 {
		d := rand.New(rand.NewSource(int64(seed)))
		l := shapes()
		x := made(t, l[d.Intn(len(l))], d.Intn(2) == 0)
		for range d.Intn(3) {
			x.write(d.Intn(blocksOf(x.g)), d.Intn(blocksOf(x.g)))
		}
		x.mark(d.Intn(x.g.Members), true, d.Intn(rowsOf(x.g)))
		for range 12 {
			x.attempt(d.Intn(x.g.Members+2)-1, d.Intn(x.g.Stripes+2)-1)
			if d.Intn(3) == 0 {
				x.harm(d)
			}
			if d.Intn(8) == 0 {
				x.cut([]bool{true, false, true}, []bool{false, true}, nil, []bool{true, true})
			}
		}
	}
}
