package rows_test

import (
	"bytes"
	"slices"
	"testing"

	"spindle/api"
)

// cached are the sectors of each member whose writes are in its cache.
func (x *pair) cached() [][]int {
	l := [][]int{}
	for m := range x.g.Members {
		l = append(l, x.b.Pending(m))
	}
	return l
}

// By rising rows, and in each by rising members, in whatever order the patches come.
func TestPlaceInOrder(t *testing.T) {
	slots := []int{1, 0, 3, 2, 0, 1, 3}
	for _, call := range []string{
		"place.1.0.0.1.3.1.2.4.0.8.1.9.3.9", "place.3.9.1.9.0.8.2.4.3.1.0.1.1.0", "place.0.8.3.1.3.9.1.0.2.4.1.9.0.1",
	} {
		for n, slot := range slots {
			x := made(t, four(), 0, false)
			x.trip(n)
			x.spendTrouble(call, slot, api.ErrBayDark, 0, n, 0)
			for m, l := range x.cached() {
				want := 0
				for _, s := range slots[:n] {
					if s == m {
						want++
					}
				}
				if len(l) != want || !slices.IsSorted(l) {
					t.Errorf("%s, behind %d writes: member %d has %v", call, n, m, l)
				}
			}
		}
		x := made(t, four(), 0, false)
		x.spend(call, 0, 7, 0)
		for m, want := range [][]int{{2, 9}, {1, 10}, {5}, {2, 10}} {
			if l := x.b.Pending(m); !slices.Equal(l, want) {
				t.Errorf("%s: member %d has %v; want %v", call, m, l, want)
			}
		}
	}
}

// Of several patches of one sector the last one is written, once.
func TestPlaceOfEqualSectors(t *testing.T) {
	x := made(t, four(), 0, false)
	l := x.patches(2, 5, 1, 5, 2, 5, 2, 4, 2, 5, 1, 5)
	before := x.b.Counts()
	x.place(l)
	if x.b.Counts().Writes != before.Writes+3 {
		t.Errorf("%v operations behind %v", x.b.Counts(), before)
	}
	x.run("barrier")
	for at, data := range map[spot][]byte{{2, 6}: l[4].Data, {2, 5}: l[3].Data, {1, 6}: l[5].Data} {
		if !bytes.Equal(x.stands(at.member, at.row), data) {
			t.Errorf("sector %d of member %d: %x", at.row, at.member, x.stands(at.member, at.row))
		}
	}
}

// What is down is skipped, from where it is down on.
func TestPlaceSkipsWhatIsDown(t *testing.T) {
	for from := -1; from <= 10; from++ {
		x := made(t, four(), 0, false)
		x.mark(2, true, from)
		writes := 0
		for _, row := range []int{0, 3, 4, 9} {
			if row < from {
				writes++
			}
		}
		x.spend("place.2.0.2.3.2.4.2.9.1.3", 0, writes+1, 0)
		x.run("down.0.0 down.1.0 down.3.0")
		x.spend("place.2.0.2.3.2.4.2.9.1.3", 0, writes, 0)
		x.fail(0)
		x.pull(1)
		x.spend("place.0.0.1.0.3.9", 0, 0, 0)
	}
}

func TestPlaceOfNothing(t *testing.T) {
	for _, ring := range []int{0, 10} {
		x := made(t, three(), ring, true)
		x.spend("place", 0, 0, 0)
		x.trip(0)
		x.spend("place", 0, 0, 0)
	}
}

// wantNoPlace wants patches to be refused by this error, and nothing to be done.
func (x *pair) wantNoPlace(l []api.Patch, e api.Errno) {
	x.t.Helper()
	before := x.b.Counts()
	if u := x.place(l); u != (api.Trouble{Err: e}) || x.b.Counts() != before {
		x.t.Errorf("Place: %v, %v operations; want %v", u, x.b.Counts(), e)
	}
}

func TestPlaceOfNoPlace(t *testing.T) {
	for _, g := range shapes() {
		for _, marks := range []string{"", "down.0.0", "down.0.0 down.1.0 down.2.0"} {
			x := made(t, g, 0, false)
			x.run(marks)
			short := api.Patch{Member: 1, Row: 0, Data: full(1)[1:]}
			bad := []api.Patch{}
			for _, n := range append(misfits(), g.Members, 15, 16) {
				if n < 0 || n >= g.Members {
					bad = append(bad, x.patches(n, 0)...)
				}
			}
			for _, n := range append(misfits(), rowsOf(g), 4095, 4096) {
				if n < 0 || n >= rowsOf(g) {
					bad = append(bad, x.patches(0, n)...)
				}
			}
			for _, p := range bad {
				x.wantNoPlace([]api.Patch{p}, api.ErrRange)
				x.wantNoPlace(append(x.patches(0, 0, 1, 0), p), api.ErrRange)
				x.wantNoPlace([]api.Patch{short, p}, api.ErrRange)
				x.wantNoPlace([]api.Patch{{Member: p.Member, Row: p.Row}}, api.ErrRange)
			}
			for _, data := range [][]byte{nil, {}, full(1)[:127], append(full(1), 1), bytes.Repeat([]byte{1}, 256)} {
				p := api.Patch{Member: 0, Row: 0, Data: data}
				x.wantNoPlace([]api.Patch{p}, api.ErrLength)
				x.wantNoPlace(append(x.patches(2, 0, 1, 0), p), api.ErrLength)
				x.wantNoPlace(append([]api.Patch{p}, x.patches(0, 0)...), api.ErrLength) // another one of the same sector comes behind it
				x.trip(0)
				x.wantNoPlace([]api.Patch{p}, api.ErrLength)
				x.cut()
			}
		}
	}
}

// What was written ahead of a trouble stays; nothing is written behind it.
func TestPlaceInTrouble(t *testing.T) {
	x := made(t, four(), 0, false)
	x.fail(2)
	x.spendTrouble("place.3.1.2.1.1.1.0.1.0.2", 2, api.ErrFailed, 0, 3, 0)
	if l := x.cached(); len(l[0]) != 1 || len(l[1]) != 1 || len(l[3]) != 0 {
		t.Errorf("behind the trouble: %v", l)
	}
	x.pull(1)
	x.spendTrouble("place.3.1.2.1.1.1.0.1.0.2", 1, api.ErrBayEmpty, 0, 2, 0)
	x.run("down.1.1")
	x.spendTrouble("place.3.1.2.1.1.1.0.1.0.2", 2, api.ErrFailed, 0, 2, 0)
	x.run("down.2.0")
	x.spend("place.3.1.2.1.1.1.0.1.0.2", 0, 3, 0)
}

// What waits is not affected by what is placed past it, and is read as before.
func TestPlaceLeavesWhatWaits(t *testing.T) {
	x := made(t, four(), 20, true)
	x.run("write.0")
	data := random(x.serial)
	x.spend("place.0.0.3.0.1.0", 0, 3, 0)
	x.wantState(true, 2)
	x.wantSector(0, 0, data, 0)
	x.wantJournal(5, 2, false)
	x.run("write")
	x.run("place.0.0")
	x.wantState(false, 2)
	x.run("settle barrier")
	if !bytes.Equal(x.stands(0, 1), data) {
		t.Errorf("what waited is not placed")
	}
}

// The members are flushed by rising numbers, but those that are down at row 0; the journal is not.
func TestBarrier(t *testing.T) {
	for _, ring := range []int{0, 20} {
		for _, g := range []api.Geometry{three(), four(), shape(16, 1, 2)} {
			x := made(t, g, ring, true)
			x.spend("barrier", 0, 0, g.Members)
			x.try("write.0")
			for m := range g.Members {
				x.run("place.0.0.1.0.2.0")
				x.trip(m)
				x.spendTrouble("barrier", m, api.ErrBayDark, 0, 0, m)
				x.cut()
				if ring > 0 && len(x.b.Pending(g.Members)) > 0 {
					t.Fatal("the cut kept something")
				}
			}
			x = made(t, g, ring, true)
			for m := range g.Members {
				x.mark(m, true, 1)
				x.spend("barrier", 0, 0, g.Members-m) // ahead of row 1 it is up
				x.mark(m, true, 0)
				x.fail(m)
				x.spend("barrier", 0, 0, g.Members-m-1)
			}
			for m := range g.Members {
				x.mark(m, false, 0)
				x.spendTrouble("barrier", m, api.ErrFailed, 0, 0, 1)
				x.mark(m, true, -1)
			}
		}
	}
}

// Barrier doesn't touch the journal, nor what waits.
func TestBarrierAlone(t *testing.T) {
	x := made(t, three(), 10, true)
	x.run("write.0")
	x.spend("barrier", 0, 0, 3)
	x.wantState(true, 2)
	x.wantJournal(5, 2, false)
	if l := x.b.Pending(3); len(l) != 1 {
		t.Errorf("writes in the journal's cache: %v", l)
	}
}
