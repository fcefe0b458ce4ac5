package rows_test

import (
	"bytes"
	"math"
	"slices"
	"testing"

	"spindle/api"
	"spindle/bay"
	"spindle/rows"
	"spindle/wal"
)

// slots is a bay with n disks of 12 sectors.
func slots(t *testing.T, n int) *bay.Bay {
	t.Helper()
	b, e := bay.New(slices.Repeat([]int{12}, n)...)
	if e != api.OK {
		t.Fatalf("bay.New: %v", e)
	}
	return b
}

// wantNew wants New to be answered so, without an operation.
func wantNew(t *testing.T, b *bay.Bay, g api.Geometry, w *wal.Wal, want api.Errno) *rows.Rows {
	t.Helper()
	before := b.Counts()
	for _, lazy := range []bool{false, true} {
		r, e := rows.New(b, g, w, lazy)
		if e != want || (r == nil) != (e != api.OK) {
			t.Errorf("New of %d slots, %v: %v, %v; want %v", b.Slots(), g, r, e, want)
		}
		if r != nil && (r.Pending() != 0 || r.Sealed()) {
			t.Errorf("New of %d slots, %v: pending %d, sealed %v", b.Slots(), g, r.Pending(), r.Sealed())
		}
		for m := -1; r != nil && m <= g.Members; m++ {
			for _, row := range []int{-1, 0, 1, 5000, math.MaxInt} {
				if r.Down(m, row) {
					t.Errorf("New of %v: member %d is down at row %d", g, m, row)
				}
			}
		}
	}
	if b.Counts() != before {
		t.Errorf("New of %d slots, %v: %v operations; want %v", b.Slots(), g, b.Counts(), before)
	}
	r, _ := rows.New(b, g, w, false)
	return r
}

// misfits are numbers that are out of each bound, some of which would be in if fewer bits of them counted.
func misfits() []int {
	return []int{-1, -3, 1<<8 + 4, 1<<16 + 4, 1<<32 + 4, -1<<32 + 4, math.MaxInt, math.MinInt, math.MinInt + 4}
}

func TestNewOfGeometries(t *testing.T) {
	for n := 3; n <= 16; n++ {
		for _, k := range []int{1, 2, 15, 16} {
			for _, s := range []int{1, 2, 255, 256} {
				wantNew(t, slots(t, n+1), shape(n, k, s), nil, api.OK)
			}
		}
	}
	bad := []api.Geometry{{}, shape(2, 1, 1), shape(17, 1, 1), shape(0, 1, 1), shape(3, 17, 1), shape(3, 0, 1), shape(3, 1, 0), shape(3, 1, 257), shape(3, 16, 257), shape(3, 32, 128)}
	for _, n := range misfits() {
		bad = append(bad, shape(n, 1, 1), shape(3, n, 1), shape(3, 1, n))
	}
	for _, g := range bad {
		for n := 1; n <= 17; n++ { // what the geometry lacks is told ahead of what the bay does
			wantNew(t, slots(t, n), g, nil, api.ErrGeomForm)
		}
	}
}

func TestNewOfSlots(t *testing.T) {
	for members := 3; members <= 16; members++ {
		for n := 1; n <= 17; n++ {
			want := api.ErrArg
			if n == members+1 {
				want = api.OK
			}
			wantNew(t, slots(t, n), shape(members, 1, 1), nil, want)
		}
	}
}

// New asks for nothing but slots: there need be no disks, and no power.
func TestNewOfPoorBays(t *testing.T) {
	b, _ := bay.New(0, 1, 0, 0)
	r := wantNew(t, b, three(), nil, api.OK)
	if _, u := r.Read(0); u != (api.Trouble{Slot: 0, Err: api.ErrBayEmpty}) {
		t.Errorf("Read of an empty slot: %v", u)
	}
	if _, u := r.Sector(1, 0); u != (api.Trouble{Slot: 1, Err: api.ErrRange}) {
		t.Errorf("Sector of a disk that is too small: %v", u)
	}
	b = slots(t, 4)
	b.Trip(0)
	b.Flush(0)
	r = wantNew(t, b, three(), nil, api.OK)
	if _, u := r.Read(1); u != (api.Trouble{Slot: 1, Err: api.ErrBayDark}) {
		t.Errorf("Read without power: %v", u)
	}
}

// The bay is used itself: what is done past the Rows is seen by it, and the other way round.
func TestBayIsShared(t *testing.T) {
	b := slots(t, 4)
	w, _ := wal.Format(b, 3, 10, 1)
	r := wantNew(t, b, three(), w, api.OK)
	b.Write(0, 1, full(7))
	if data, u := r.Read(0); u != noTrouble() || !bytes.Equal(data, full(7)) {
		t.Errorf("Read: %x, %v", data, u)
	}
	r.Write([]api.Put{{Block: 1, Data: full(8)}})
	if data, _ := b.Read(1, 1); !bytes.Equal(data, full(8)) {
		t.Errorf("what was written is not on the disk: %x", data)
	}
	if data, _ := b.Read(2, 1); !bytes.Equal(data, full(15)) {
		t.Errorf("the parity is not on the disk: %x", data)
	}
	b.Fail(1)
	if _, u := r.Read(1); u != (api.Trouble{Slot: 1, Err: api.ErrFailed}) {
		t.Errorf("Read of a disk that has failed: %v", u)
	}
	b.Swap(1, 3)
	if data, u := r.Read(1); u != noTrouble() || !bytes.Equal(data, full(0)) {
		t.Errorf("Read of a disk that is new: %x, %v", data, u)
	}
}

// The journal is used itself: its number goes on by what is sealed past the Rows, and it may be sure by what is flushed past it.
func TestJournalIsShared(t *testing.T) {
	b := slots(t, 4)
	w, _ := wal.Format(b, 3, 10, 1)
	r, _ := rows.New(b, three(), w, true)
	r.Write([]api.Put{{Block: 1, Data: full(8)}})
	if w.Next() != 2 || w.Used() != 5 || w.Sure() {
		t.Errorf("behind Write: next %d, used %d, sure %v", w.Next(), w.Used(), w.Sure())
	}
	w.Sync()
	before := b.Counts()
	if u := r.Finish(); u != noTrouble() || r.Pending() != 0 || b.Counts().Writes != before.Writes+2 {
		t.Errorf("Finish of a journal that is sure: %v, pending %d", u, r.Pending())
	}
	w.Reclaim()
	r.Write([]api.Put{{Block: 1, Data: full(8)}})
	if w.Next() != 3 || w.Used() != 5 {
		t.Errorf("behind Reclaim: next %d, used %d", w.Next(), w.Used())
	}
}

// The journal may stand elsewhere than in the last slot; that slot is told of it all the same.
func TestJournalElsewhere(t *testing.T) {
	b, other := slots(t, 4), slots(t, 1)
	w, _ := wal.Format(other, 0, 10, 1)
	r := wantNew(t, b, three(), w, api.OK)
	if u := r.Write([]api.Put{{Block: 1, Data: full(8)}}); u != noTrouble() || b.Counts() != (api.Counts{Reads: 1, Writes: 2}) {
		t.Errorf("Write: %v, %v operations", u, b.Counts())
	}
	other.Fail(0)
	if u := r.Write([]api.Put{{Block: 1, Data: full(9)}}); u != (api.Trouble{Slot: 3, Err: api.ErrFailed}) {
		t.Errorf("Write: %v", u)
	}
}
