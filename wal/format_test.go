package wal_test

import (
	"math"
	"slices"
	"testing"

	"spindle/api"
	"spindle/bay"
	"spindle/wal"
)

// wantNoFormat wants Format to be refused without an operation, and with nothing beside the error.
func wantNoFormat(t *testing.T, b *bay.Bay, slot, ring int, epoch uint64) {
	t.Helper()
	before := b.Counts()
	if w, e := wal.Format(b, slot, ring, epoch); w != nil || e != api.ErrArg {
		t.Errorf("Format of slot %d, ring %d, epoch %d: %v, %v; want nil, %v", slot, ring, epoch, w, e, api.ErrArg)
	}
	if b.Counts() != before {
		t.Errorf("Format of slot %d, ring %d, epoch %d: %v operations", slot, ring, epoch, b.Counts())
	}
}

func TestFormatOfEachRing(t *testing.T) {
	for _, size := range []int{5, 6, 7, 10, 127, 128, 255, 256, 257, 2047, 2048} {
		x := bays(t, 0, size, size+2)
		x.wantSpent("Format", 0, size+1, 1, func() { x.format(7, api.OK) })
		x.wantFace(0, 1, true)
		if l := x.open(api.OK); len(l) > 0 {
			t.Errorf("ring %d: %s behind Format", size, told(l))
		}
		x.wantFace(0, 1, true)
	}
}

func TestFormatRefusesRings(t *testing.T) {
	b, _ := bay.New(2050, 8192)
	for _, size := range noRings() {
		wantNoFormat(t, b, 0, size, 1)
		wantNoFormat(t, b, 1, size, 1)
		wantNoFormat(t, b, 1, size, greatest+1)
	}
}

func TestFormatOfEachEpoch(t *testing.T) {
	for _, epoch := range []uint64{0, 1, 2, 255, 256, 1<<32 + 5, greatest - 1, greatest} {
		x := formatted(t, 5, epoch)
		x.run("log1 seal sync")
		x.cut()
		if l := x.open(api.OK); len(l) != 1 {
			t.Errorf("epoch %d: %s", epoch, told(l))
		}
	}
	b, _ := bay.New(12)
	for _, epoch := range []uint64{greatest + 1, greatest + 2, greatest + greatest/2, 1<<63 - 1, 1 << 63, 1<<63 + 1, math.MaxUint64 - 1, math.MaxUint64} {
		wantNoFormat(t, b, 0, 10, epoch)
		wantNoFormat(t, b, 0, 5, epoch)
	}
}

// A ring or an epoch that is none is told ahead of all that an operation would tell, and uses up neither a trip nor wear.
func TestFormatRefusesAheadOfOperations(t *testing.T) {
	wrong := func(b *bay.Bay, slot int) {
		t.Helper()
		wantNoFormat(t, b, slot, 4, 1)
		wantNoFormat(t, b, slot, 2049, 1)
		wantNoFormat(t, b, slot, 10, greatest+1)
	}
	b, _ := bay.New(12, 0, 3)
	for _, slot := range []int{0, 1, 2, 3, -1} {
		wrong(b, slot)
	}
	b.Trip(0)
	b.Wear(0, 0)
	wrong(b, 0)
	if b.Dark() || !b.Has(0) {
		t.Errorf("dark %v, has %v", b.Dark(), b.Has(0))
	}
	b.Fail(0)
	wrong(b, 0)
	b.Read(0, 0)
	if !b.Dark() {
		t.Fatal("not dark")
	}
	wrong(b, 0)
}

func TestFormatOfSlotsThatAreNone(t *testing.T) {
	for _, slot := range []int{-1, 3, 4, 16, 17, math.MaxInt, math.MinInt, -1 << 32, 1 << 32, 1<<32 + 1} {
		x := bays(t, slot, 10, 12, 12, 12)
		x.wantSpent("Format", 0, 0, 0, func() { x.format(1, api.ErrArg) })
		x.wantSpent("Open", 0, 0, 0, func() { x.open(api.ErrArg) })
	}
}

func TestFormatOfAnEmptySlot(t *testing.T) {
	x := bays(t, 1, 10, 12, 0, 12)
	x.wantSpent("Format", 0, 1, 0, func() { x.format(1, api.ErrBayEmpty) })
	x.wantSpent("Open", 1, 0, 0, func() { x.open(api.ErrBayEmpty) })
}

// On a disk that is too small all places that there are become zeros, and neither is the checkpoint written nor anything flushed.
func TestFormatOfSmallDisks(t *testing.T) {
	for _, size := range []int{5, 10, 2048} {
		for _, sectors := range []int{size + 1, size, size - 1, 3, 2, 1} {
			x := bays(t, 0, size, sectors)
			there := max(0, sectors-2)
			x.wantSpent("Format", 0, there+1, 0, func() { x.format(1, api.ErrRange) })
			if n := len(x.b.Pending(0)); n != there {
				t.Errorf("ring %d, %d sectors: %d writes", size, sectors, n)
			}
		}
		x := bays(t, 0, size, size+2)
		x.format(1, api.OK)
	}
}

// The places become zeros and the checkpoint is written, whatever stood there; all other sectors stay as they are.
func TestFormatOfAUsedDisk(t *testing.T) {
	for _, size := range []int{5, 10, 100} {
		x := bays(t, 1, size, size+9, size+9, size+9)
		noise := []string{}
		for i := range size + 9 {
			noise = append(noise, string(full(byte(i+1))))
		}
		x.put(noise...)
		x.format(9, api.OK)
		now := x.durable()
		for at, got := range now {
			want := noise[at]
			if at == 1 {
				want = string(checkpoint(9, 1, 0))
			} else if at >= 2 && at < 2+size {
				want = string(full(0))
			}
			if got != want {
				t.Errorf("ring %d: sector %d: % x", size, at, got)
			}
		}
	}
}

// What an older journal left is gone, also where the new one begins with its epoch and its numbers.
func TestFormatForgets(t *testing.T) {
	for _, epoch := range []uint64{3, 4, 2} {
		x := formatted(t, 20, 3)
		x.run("log1 seal log2 seal sync")
		x.format(epoch, api.OK)
		x.wantFace(0, 1, true)
		x.cut()
		if l := x.open(api.OK); len(l) > 0 {
			t.Errorf("epoch %d: %s", epoch, told(l))
		}
		x.run("log1 seal sync")
		x.cut()
		if l := x.open(api.OK); len(l) != 1 || !samePatches(l[0].Patches, batch(x.serial, 1)) {
			t.Errorf("epoch %d: %s", epoch, told(l))
		}
	}
}

// Behind each number of operations, the writes so far are those of the places from 0 on, and then of the checkpoint.
func TestFormatInOrder(t *testing.T) {
	for _, size := range []int{5, 6, 10} {
		noise := slices.Repeat([]string{string(full('n'))}, size+3)
		for n := range size + 2 {
			for _, worn := range []bool{false, true} {
				x := bays(t, 0, size, size+3)
				x.put(noise...)
				want := api.ErrBayDark
				if worn {
					x.wear(n)
					want = api.ErrFailed
				} else {
					x.trip(n)
				}
				x.format(2, want)
				if worn {
					continue
				}
				kept := len(x.b.Pending(0))
				if kept != n {
					t.Errorf("ring %d: %d writes behind %d operations", size, kept, n)
				}
				x.cut(bools(kept, true)...)
				x.wantLaid(noise, n)
			}
		}
	}
}

// wantLaid wants the first n writes of a Format on this disk to have been kept.
func (x *pair) wantLaid(noise []string, n int) {
	x.t.Helper()
	for at, got := range x.durable() {
		want := noise[at]
		if at >= 2 && at < 2+min(n, x.size) {
			want = string(full(0))
		} else if at == 1 && n > x.size {
			want = string(checkpoint(2, 1, 0))
		}
		if got != want {
			x.t.Errorf("ring %d: sector %d behind %d operations: % x", x.size, at, n, got)
		}
	}
}

// bools are n of them.
func bools(n int, value bool) []bool {
	l := make([]bool, n)
	for i := range l {
		l[i] = value
	}
	return l
}
