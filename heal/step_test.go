package heal_test

import (
	"slices"
	"testing"

	"spindle/api"
	"spindle/rows"
)

// Each stripe of each member alone: its rows are what they were, by so many operations, and nothing else is written anywhere.
func TestStepOfEachStripe(t *testing.T) {
	for _, g := range shapes() {
		for m := range g.Members {
			for s := range g.Stripes {
				x := made(t, g, false)
				x.renew(m, 0)
				x.spend(m, s, noTrouble(), g.Chunk*(g.Members-1), g.Chunk, 1)
				x.wantRebuilt(m, s)
				for slot := range g.Members + 1 {
					if l := x.b.Pending(slot); len(l) > 0 {
						t.Errorf("%v: Step(%d, %d): slot %d has %v in its cache", g, m, s, slot, l)
					}
				}
			}
		}
	}
}

// Each member has its row's parity or a block there; both are worked out the same way.
func TestStepOfParityAndBlocks(t *testing.T) {
	x := made(t, shape(4, 2, 5), false)
	for block := range blocksOf(x.g) {
		x.write(block)
	}
	for m := range 4 {
		x.renew(m, 0)
		for s := range 5 {
			x.step(m, s, noTrouble())
		}
		x.wantRebuilt(m, 0, 1, 2, 3, 4)
		x.mark(m, false, 0)
	}
	x.wantBlocks()
}

// The others' sum is what is written, even where a row was not even.
func TestStepOfUnevenRows(t *testing.T) {
	x := made(t, shape(4, 2, 5), false)
	x.mark(1, true, 0)
	for m, c := range []byte{1, 2, 4, 8} {
		for _, b := range x.bays() {
			b.Write(m, 3, full(c))
			b.Flush(m)
		}
	}
	x.step(1, 1, noTrouble())
	if x.durable(1, 3) != string(full(13)) {
		t.Errorf("row 2: %x", x.durable(1, 3))
	}
}

// operation is one that a Step performs: which disk, and which of its sectors; -1 for a flush.
type operation struct {
	slot, at int
	writes   bool
}

// operations are those of a Step without trouble, in their order.
func operations(g api.Geometry, member, stripe int) []operation {
	l := []operation{}
	for i := range g.Chunk {
		at := 1 + stripe*g.Chunk + i
		for m := range g.Members {
			if m != member {
				l = append(l, operation{m, at, false})
			}
		}
		l = append(l, operation{member, at, true})
	}
	return append(l, operation{member, -1, true})
}

// countsOf is how many of them there are.
func countsOf(l []operation) (reads, writes, flushes int) {
	for _, o := range l {
		switch {
		case !o.writes:
			reads++
		case o.at >= 0:
			writes++
		default:
			flushes++
		}
	}
	return reads, writes, flushes
}

// The power goes at each operation: its slot is told, all ahead of it were performed, and none behind it.
func TestOperationByOperation(t *testing.T) {
	for _, g := range shapes() {
		for _, m := range []int{0, g.Members / 2, g.Members - 1} {
			s := m % g.Stripes
			l := operations(g, m, s)
			for n := 0; n <= len(l); n++ {
				x := made(t, g, false)
				x.renew(m, 0)
				x.trip(n)
				want := noTrouble()
				if n < len(l) {
					want = of(l[n].slot, api.ErrBayDark)
				}
				reads, writes, flushes := countsOf(l[:n])
				x.spend(m, s, want, reads, writes, flushes)
				if x.b.Dark() != (n < len(l)) {
					t.Fatalf("%v: behind %d operations: dark %v", g, n, x.b.Dark())
				}
				x.wantCached(m, l[:n])
			}
		}
	}
}

// wantCached wants a disk's cache to have the writes of these, if no flush is among them.
func (x *pair) wantCached(member int, l []operation) {
	x.t.Helper()
	want := []int{}
	for _, o := range l {
		switch {
		case o.writes && o.at >= 0:
			want = append(want, o.at)
		case o.writes:
			want = nil
		}
	}
	if got := x.b.Pending(member); !slices.Equal(got, want) {
		x.t.Fatalf("behind %d operations: the cache has the sectors %v; want %v", len(l), got, want)
	}
}

// Each other disk is too short for one of the rows: it is the one that is read there, at that sector.
func TestSectorsThatAreRead(t *testing.T) {
	g := shape(4, 3, 3)
	for m := range 4 {
		for s := range 3 {
			for i := range 3 {
				for k := range 3 {
					x := made(t, g, false)
					other := x.others(m)[k]
					x.renew(m, 0)
					x.swap(other, 1+3*s+i) // the first sector that it doesn't have is this row's
					x.spend(m, s, of(other, api.ErrRange), 3*i+k+1, i, 0)
					x.swap(other, 2+3*s+i) // it has this one, but not the next
					u := of(other, api.ErrRange)
					if i == 2 {
						u = noTrouble()
					}
					x.step(m, s, u)
				}
			}
		}
	}
}

// A Step keeps nothing: where it is made again, it does all of it again, by what the disks have then.
func TestStepAgain(t *testing.T) {
	x := made(t, shape(4, 2, 5), false)
	x.renew(3, 0)
	for range 3 {
		x.spend(3, 2, noTrouble(), 6, 2, 1)
		x.wantRebuilt(3, 2)
		x.write(12, 17) // in that stripe
		x.spend(3, 2, noTrouble(), 6, 2, 1)
		x.wantRebuilt(3, 2)
	}
}

// Whoever calls: a Rows without a journal does as well.
func TestStepWithoutJournal(t *testing.T) {
	for _, lazy := range []bool{false, true} {
		x := made(t, shape(4, 2, 5), lazy)
		x.r, _ = rows.New(x.b, x.g, nil, lazy)
		x.renew(0, 4)
		for s := range 5 {
			u := noTrouble()
			if s < 2 {
				u = without(api.ErrHealIdle)
			}
			x.step(0, s, u)
		}
		x.wantRebuilt(0, 2, 3, 4)
	}
}

// The journal's disk is not asked for anything: it may be gone.
func TestStepNeedsNoJournalsDisk(t *testing.T) {
	for _, harm := range []func(x *pair){func(x *pair) { x.fail(4) }, func(x *pair) { x.pull(4) }, func(x *pair) { x.wear(4, 0) }} {
		x := made(t, shape(4, 2, 5), false)
		x.renew(0, 0)
		harm(x)
		had := x.b.Has(4)
		x.spend(0, 1, noTrouble(), 6, 2, 1)
		x.wantRebuilt(0, 1)
		if x.b.Has(4) != had {
			t.Errorf("the journal's disk was asked for something")
		}
	}
}

// Two arrays have nothing to do with each other.
func TestStepsAreIndependent(t *testing.T) {
	x, y := made(t, shape(4, 2, 5), false), made(t, three(), false)
	x.renew(1, 0)
	y.renew(2, 0)
	y.fail(0)
	y.step(2, 0, of(0, api.ErrFailed))
	x.step(1, 0, noTrouble())
	y.step(2, 1, of(0, api.ErrFailed))
	x.step(1, 4, noTrouble())
	x.wantRebuilt(1, 0, 4)
	y.wantRebuilt(2)
}

// A bay may have a new disk with just the sectors that the rows take.
func TestStepOfTheLeastDisk(t *testing.T) {
	for _, g := range shapes() {
		x := made(t, g, false)
		x.mark(0, true, 0)
		x.swap(0, 1+rowsOf(g))
		for s := range g.Stripes {
			x.step(0, s, noTrouble())
		}
		for row := range rowsOf(g) {
			if x.durable(0, 1+row) != x.holds[spot{0, row}] {
				t.Errorf("%v: row %d is another one", g, row)
			}
		}
		if x.durable(0, 0) != string(full(0)) {
			t.Errorf("%v: the superblock's sector was written", g)
		}
	}
}
