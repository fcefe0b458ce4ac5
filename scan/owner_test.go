package scan_test

import (
	"slices"
	"testing"

	"spindle/api"
	"spindle/scan"
)

// scribble writes all over l and behind it.
func scribble(l []byte) {
	l = l[:cap(l)]
	for i := range l {
		l[i] = ^l[i]
	}
}

// copyOf is a batch that shares nothing with t.
func copyOf(t api.Txn) api.Txn {
	t.Patches = slices.Clone(t.Patches)
	for i, p := range t.Patches {
		t.Patches[i].Data = slices.Clone(p.Data)
	}
	return t
}

func copyOfFound(f api.Found) api.Found {
	f.Txns = slices.Clone(f.Txns)
	for i, x := range f.Txns {
		f.Txns[i] = copyOf(x)
	}
	return f
}

func copyOfSectors(l [][]byte) [][]byte {
	l = slices.Clone(l)
	for i, b := range l {
		l[i] = slices.Clone(b)
	}
	return l
}

// patched are batches with data of all kinds.
func patched() []api.Txn {
	return []api.Txn{
		batch(1, 1), batch(2, 7), batch(3, 60),
		{Seq: 4, Patches: []api.Patch{patch(1, 2, marked("SPJL", 'a')), patch(3, 4, filled(0)), patch(5, 6, filled('b'))}},
	}
}

func TestSectorsLeaveTheBatch(t *testing.T) {
	for _, x := range append(patched(), batch(0, 3), batch(greatest+1, 3), api.Txn{Seq: 1, Patches: make([]api.Patch, 1024)}) {
		was := copyOf(x)
		for _, epoch := range []uint64{1, greatest + 1} {
			scan.Sectors(epoch, x)
			if !sameTxn(x, was) {
				t.Errorf("Sectors has changed a batch of %d patches", len(x.Patches))
			}
		}
	}
}

// Whatever is done with what was handed in makes no difference to what came out.
func TestSectorsKeepNothingOfTheBatch(t *testing.T) {
	for _, x := range patched() {
		was := copyOf(x)
		l := wantSectors(t, 1, x)
		for i := range x.Patches {
			scribble(x.Patches[i].Data)
			x.Patches[i] = api.Patch{}
		}
		if want := drafted(1, was).sectors(); !slices.EqualFunc(l, want, slices.Equal) {
			t.Errorf("the sectors of %d patches are others now", len(was.Patches))
		}
		wantSectors(t, 1, was)
	}
}

// What came out is its owner's: no two sectors share anything, nor do those of two calls.
func TestSectorsAreTheirOwners(t *testing.T) {
	for _, x := range patched() {
		kept, other := wantSectors(t, 1, x), wantSectors(t, 1, x)
		want := copyOfSectors(kept)
		for i, b := range other {
			scribble(b)
			other[i] = nil
		}
		other = append(other[:0], filled('n'))
		for i := range kept {
			if !slices.EqualFunc(kept[i:], want[i:], slices.Equal) {
				t.Fatalf("sectors of %d patches are others now", len(x.Patches))
			}
			scribble(kept[i])
		}
		wantSectors(t, 1, x)
	}
}

// Patches that share their bytes, and a list that has room behind its end.
func TestSectorsOfSharedBytes(t *testing.T) {
	long := slices.Repeat([]byte{7}, 400)
	l := []api.Patch{patch(1, 1, long[:128]), patch(2, 2, long[:128]), patch(3, 3, long[64:192]), patch(4, 4, long[:5])}
	for n := 1; n <= 3; n++ {
		got := wantSectors(t, 1, api.Txn{Seq: 1, Patches: l[:n]})
		for _, b := range got {
			if slices.Contains(b[len(b):cap(b)], 7) {
				t.Error("behind a sector there is what stood behind the bytes")
			}
			scribble(b)
		}
	}
	wantNoSectors(t, 1, api.Txn{Seq: 1, Patches: l}, api.ErrLength)
	wantNoSectors(t, 1, api.Txn{Seq: 1, Patches: l[:0]}, api.ErrArg)
	if !slices.Equal(long, slices.Repeat([]byte{7}, 400)) || l[3].Member != 4 || len(l[3].Data) != 5 {
		t.Error("what was handed in was changed")
	}
}

// histories are rings in which several batches are found, or one, or none.
func histories() []history {
	return []history{
		storied(30, api.Check{Epoch: 1, Seq: 1, Tail: 22}, 3, 1, 5),
		storied(15, api.Check{Epoch: 1, Seq: 1, Tail: 14}, 7),
		storied(9, api.Check{Epoch: 1, Seq: 1, Tail: 0}, 1, 1, 1),
		storied(9, api.Check{Epoch: 1, Seq: 1, Tail: 4}),
	}
}

func TestOfLeavesTheRing(t *testing.T) {
	for _, h := range histories() {
		was := slices.Clone(h.ring)
		for tail := -1; tail <= len(h.ring)/128; tail++ {
			for n := range 7 {
				scan.Of(h.ring[:len(h.ring)-n*64], api.Check{Epoch: 1, Seq: 1, Tail: tail})
			}
		}
		if !slices.Equal(h.ring, was) {
			t.Errorf("Of has changed a ring of %d bytes", len(was))
		}
	}
}

func TestOfKeepsNothingOfTheRing(t *testing.T) {
	for _, h := range histories() {
		was, n := slices.Clone(h.ring), len(h.txns)
		f, _ := scan.Of(h.ring, h.check)
		scribble(h.ring)
		if !sameFound(f, h.found(n)) {
			t.Errorf("what was found is %s now; want %s", told(f), told(h.found(n)))
		}
		wantNone(t, h.ring, h.check)
		h.ring = was
		h.wantFirst(t, n)
	}
}

func TestFoundIsItsOwners(t *testing.T) {
	for _, h := range histories() {
		ring, n := slices.Clone(h.ring), len(h.txns)
		kept, _ := scan.Of(h.ring, h.check)
		other, _ := scan.Of(h.ring, h.check)
		for i, x := range other.Txns {
			for j, p := range x.Patches {
				scribble(p.Data)
				x.Patches[j] = api.Patch{}
			}
			other.Txns[i] = api.Txn{}
		}
		if !sameFound(kept, h.found(n)) || !slices.Equal(h.ring, ring) {
			t.Errorf("what was found is %s now; want %s", told(kept), told(h.found(n)))
		}
		h.wantFirst(t, n)
	}
}

// No two lists of what was found share anything, nor the room behind them.
func TestFoundSharesNothing(t *testing.T) {
	for _, h := range histories() {
		f, _ := scan.Of(h.ring, h.check)
		want := copyOfFound(f)
		for i, x := range f.Txns {
			room := x.Patches[len(x.Patches):cap(x.Patches)]
			for j := range room {
				room[j] = patch(9, 9, filled('n'))
			}
			for j, p := range x.Patches {
				if !slices.EqualFunc(f.Txns[i+1:], want.Txns[i+1:], sameTxn) || !sameTxn(api.Txn{Patches: x.Patches[j:]}, api.Txn{Patches: want.Txns[i].Patches[j:]}) {
					t.Fatalf("what was found is %s now; want %s", told(f), told(want))
				}
				scribble(p.Data)
			}
		}
		h.wantFirst(t, len(h.txns))
	}
}

// What stands behind the end of a ring is no part of it, though it would continue what is found.
func TestOfReadsNothingBehindTheRing(t *testing.T) {
	for places := 5; places < 12; places++ {
		for tail := range places {
			c := api.Check{Epoch: 1, Seq: 1, Tail: tail}
			long := noise(places + 20)
			at := tail
			for _, x := range batches(1, 1, 1, 2) {
				sectors := drafted(1, x).sectors()
				lay(long, at, sectors...)
				at += len(sectors)
			}
			was := slices.Clone(long)
			ring := long[: places*128 : len(long)]
			wantFound(t, ring, c, plainOf(slices.Clone(ring), c))
			if !slices.Equal(long, was) {
				t.Error("what stands in the ring, or behind it, was changed")
			}
		}
	}
}
