package heal_test

import (
	"testing"

	"spindle/api"
	"spindle/rows"
)

// lazily has blocks that wait, in the rows 2 and 3 of stripe 1: of each row there are three, on the members 3, 0 and 1, and its parity is on member 2.
func lazily(t *testing.T, blocks ...int) *pair {
	t.Helper()
	x := made(t, shape(4, 2, 5), true)
	if len(blocks) > 0 {
		x.write(blocks...)
	}
	return x
}

// wantSettled brings the member up, lays what waits in its place, and wants all to be there.
func (x *pair) wantSettled(member int) {
	x.t.Helper()
	for s := range x.g.Stripes {
		if s != 1 {
			x.step(member, s, noTrouble())
		}
	}
	x.mark(member, false, 0)
	x.wantBlocks()
	x.settle()
	x.wantAnyLost(member)
}

// What waits is not read: neither for the member itself, where it is what is written, nor for the others. It waits on.
func TestWaitingPatches(t *testing.T) {
	for _, c := range []struct {
		blocks []int
		reads  [4]int // by the member that is rebuilt
	}{
		{nil, [4]int{6, 6, 6, 6}},
		{[]int{0, 18}, [4]int{6, 6, 6, 6}},    // in other stripes
		{[]int{6}, [4]int{4, 4, 3, 3}},        // on member 3, and the parity on member 2
		{[]int{9}, [4]int{3, 4, 3, 4}},        // on member 0
		{[]int{6, 9}, [4]int{1, 2, 0, 1}},     // one in each row
		{[]int{6, 8, 10}, [4]int{3, 3, 3, 3}}, // all of row 2
		{[]int{6, 7, 8, 9, 10, 11}, [4]int{}},
	} {
		for m, reads := range c.reads {
			x := lazily(t, c.blocks...)
			n := x.r.Pending()
			x.renew(m, 0)
			x.spend(m, 1, noTrouble(), reads, 2, 1)
			x.wantRebuilt(m, 1)
			if x.r.Pending() != n {
				t.Errorf("%v: %d patches wait; want %d", c.blocks, x.r.Pending(), n)
			}
			x.wantSettled(m)
		}
	}
}

// That the batch is sure makes no difference: it waits on all the same.
func TestSureBatchWaits(t *testing.T) {
	for m, reads := range [4]int{4, 4, 3, 3} {
		x := lazily(t, 6)
		x.sync()
		x.renew(m, 0)
		x.spend(m, 1, noTrouble(), reads, 2, 1)
		x.wantRebuilt(m, 1)
		if x.r.Pending() != 2 {
			t.Errorf("%d patches wait; want 2", x.r.Pending())
		}
		x.wantSettled(m)
	}
}

// A member fails as a batch is placed, so that all of it waits on; the new disk gets what was for it all the same.
func TestBatchThatWasHalfPlaced(t *testing.T) {
	for _, m := range []int{2, 3} {
		x := lazily(t, 6)
		x.fail(m)
		for _, r := range []*rows.Rows{x.r, x.q} {
			if u := r.Settle(); u != of(m, api.ErrFailed) {
				t.Fatalf("Settle: %v", u)
			}
		}
		x.renew(m, 0)
		x.spend(m, 1, noTrouble(), 3, 2, 1)
		x.wantRebuilt(m, 1)
		x.wantSettled(m)
	}
}

// A batch that came while the member was down has no patch for it: what is to stand there is worked out of those that wait for the others.
func TestWaitingPatchesOfOthersAlone(t *testing.T) {
	for m, reads := range [4]int{5, 4, 5, 5} {
		x := lazily(t)
		x.renew(m, 0)
		x.write([]int{8, 6, 6, 6}[m]) // on member 0, or 3
		x.spend(m, 1, noTrouble(), reads, 2, 1)
		x.wantRebuilt(m, 1)
		x.wantSettled(m)
	}
}

// Where all waits, nothing is lost though all are down, and nothing is asked of the other disks though they are gone.
func TestAllWaits(t *testing.T) {
	for m := range 4 {
		x := lazily(t, 6, 7, 8, 9, 10, 11)
		x.renew(m, 0)
		for _, other := range x.others(m) {
			x.mark(other, true, 0)
			x.fail(other)
		}
		x.spend(m, 1, noTrouble(), 0, 2, 1)
		x.wantRebuilt(m, 1)
	}
}

// Another member is down too: that is no matter in the row in which a patch waits for it, and tells in the next one.
func TestWaitingPatchOfAnotherThatIsDown(t *testing.T) {
	for _, m := range []int{0, 1} {
		x := lazily(t, 6)
		x.renew(m, 0)
		x.mark(3, true, 2)
		x.spend(m, 1, without(api.ErrPlanLost), 1, 1, 0)
		x.wantHalf(m, 1, 1)
		x.mark(3, true, 3)
		x.spend(m, 1, without(api.ErrPlanLost), 1, 1, 0)
		x.mark(3, true, 4)
		x.spend(m, 1, noTrouble(), 4, 2, 1)
	}
}

// What waited is in its place by now, and is read again.
func TestNothingWaitsAnyMore(t *testing.T) {
	x := lazily(t, 6, 7, 8, 9, 10, 11)
	x.settle()
	for m := range 4 {
		x.renew(m, 0)
		x.spend(m, 1, noTrouble(), 6, 2, 1)
		x.wantRebuilt(m, 1)
		for _, s := range []int{0, 2, 3, 4} {
			x.step(m, s, noTrouble())
		}
		x.mark(m, false, 0)
	}
	x.wantBlocks()
}

// With all of a row waiting, the operations on the new disk are the first ones: the power goes at the write, or at the flush.
func TestPowerGoesAtWhatWaits(t *testing.T) {
	for n := range 3 {
		x := lazily(t, 6, 7, 8, 9, 10, 11)
		x.renew(2, 0)
		x.trip(n)
		x.spend(2, 1, of(2, api.ErrBayDark), 0, n, 0)
		x.wantCached(2, []operation{{2, 3, true}, {2, 4, true}}[:n])
	}
}
