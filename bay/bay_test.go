package bay_test

import (
	"bytes"
	"math"
	"slices"
	"testing"

	"spindle/api"
	"spindle/bay"
	"spindle/disk"
)

func TestNew(t *testing.T) {
	for _, sizes := range [][]int{
		{1}, {0}, {8192}, {2, 0, 3}, {0, 0}, {8191, 1, 8192},
		{1, 2, 3, 4, 5, 6, 7, 8, 9, 10, 11, 12, 13, 14, 15, 16},
		{1, 2, 3, 4, 5, 6, 7, 8, 9, 10, 11, 12, 13, 14, 15, 16, 8192},
		make([]int, 17),
	} {
		b := fresh(t, sizes...)
		if b.Slots() != len(sizes) || b.Dark() {
			t.Errorf("New(%v): %d slots, dark %v", sizes, b.Slots(), b.Dark())
		}
		for slot, sectors := range sizes {
			if sectors == 0 {
				wantEmpty(t, "new", b, slot)
				continue
			}
			if image, e := b.Image(slot); e != api.OK || !bytes.Equal(image, make([]byte, sectors*128)) {
				t.Errorf("New(%v): image of %d: %d bytes, %v", sizes, slot, len(image), e)
			}
			if !b.Has(slot) || b.Sectors(slot) != sectors || len(b.Pending(slot)) != 0 {
				t.Errorf("New(%v): slot %d: has %v, %d sectors", sizes, slot, b.Has(slot), b.Sectors(slot))
			}
			wantE(t, "none aside", b.Push(slot), api.ErrBayEmpty)
		}
		wantCounts(t, "new", b, 0, 0, 0)
		for slot, sectors := range sizes {
			if sectors > 0 {
				wantRead(t, b, slot, sectors-1, ".")
				wantRefused(t, b, slot, sectors, api.ErrRange)
			}
		}
	}
}

func TestNewRefused(t *testing.T) {
	for _, c := range []struct {
		sizes []int
		want  api.Errno
	}{
		{nil, api.ErrArg},
		{[]int{}, api.ErrArg},
		{make([]int, 18), api.ErrArg},
		{slices.Repeat([]int{1}, 18), api.ErrArg},
		{slices.Repeat([]int{-1}, 18), api.ErrArg}, // ahead of the sizes
		{slices.Repeat([]int{8193}, 100), api.ErrArg},
		{[]int{-1}, api.ErrDiskSize},
		{[]int{8193}, api.ErrDiskSize},
		{[]int{1, 0, -1}, api.ErrDiskSize},
		{[]int{8193, 1}, api.ErrDiskSize},
		{append(make([]int, 16), 8193), api.ErrDiskSize},
		{append(make([]int, 16), -1), api.ErrDiskSize},
		{[]int{math.MinInt}, api.ErrDiskSize},
		{[]int{math.MaxInt}, api.ErrDiskSize},
	} {
		if b, e := bay.New(c.sizes...); b != nil || e != c.want {
			t.Errorf("New(%v): %v, %v; want %v", c.sizes, b, e, c.want)
		}
	}
}

// Every call, with slots that there are not: nothing is counted, and nothing changes.
func TestNoSlot(t *testing.T) {
	b := fresh(t, 2, 0, 3)
	writes(t, b, 0, "1a")
	writes(t, b, 2, "2c")
	for _, dark := range []bool{false, true} {
		if dark {
			ok(t, "Trip", b.Trip(0))
			wantE(t, "the trip", b.Flush(0), api.ErrBayDark)
		}
		for _, slot := range noSlots(3) {
			wantOperations(t, "no slot", b, slot, api.ErrArg)
			wantRefused(t, b, slot, -1, api.ErrArg)
			wantE(t, "Write", b.Write(slot, 9, nil), api.ErrArg)
			wantE(t, "Fail", b.Fail(slot), api.ErrArg)
			for _, n := range []int{-1, 0, 1, 8192, 8193} {
				wantE(t, "Wear", b.Wear(slot, n), api.ErrArg)
				wantE(t, "Swap", b.Swap(slot, n), api.ErrArg)
			}
			for _, size := range []int{0, 127, 128} {
				wantE(t, "Load", b.Load(slot, make([]byte, size)), api.ErrArg)
			}
			wantE(t, "Pull", b.Pull(slot), api.ErrArg)
			wantE(t, "Push", b.Push(slot), api.ErrArg)
			wantNone(t, "no slot", b, slot, 0, api.ErrArg)
		}
		wantCounts(t, "no slot", b, 0, 2, 0)
		wantDisk(t, "slot 0", b, 0, "..", 1)
		wantEmpty(t, "slot 1", b, 1)
		wantDisk(t, "slot 2", b, 2, "...", 2)
	}
}

// Every call, with the last slot of the most there can be.
func TestLastSlot(t *testing.T) {
	b := fresh(t, append(make([]int, 16), 2)...)
	const last = 16
	writes(t, b, last, "1a")
	wantRead(t, b, last, 1, "a")
	wantDisk(t, "written", b, last, "..", 1)
	ok(t, "Flush", b.Flush(last))
	wantDisk(t, "flushed", b, last, ".a")
	ok(t, "Pull", b.Pull(last))
	wantEmpty(t, "pulled", b, last)
	ok(t, "Push", b.Push(last))
	b.Cut(make([][]bool, 17)...)
	wantDisk(t, "pushed", b, last, ".a")
	ok(t, "Wear", b.Wear(last, 0))
	ok(t, "Fail", b.Fail(last))
	wantFailed(t, "failed", b, last, 2)
	ok(t, "Swap", b.Swap(last, 3))
	wantDisk(t, "swapped", b, last, "...")
	ok(t, "Fail", b.Fail(last))
	load(t, b, last, "xyz")
	wantDisk(t, "loaded", b, last, "xyz")
	writes(t, b, last, "0a0b")
	keeps := make([][]bool, 17)
	keeps[last] = []bool{true}
	b.Cut(keeps...)
	wantDisk(t, "cut", b, last, "ayz")
}

func TestEmptySlot(t *testing.T) {
	b := fresh(t, 0, 1)
	wantOperations(t, "empty", b, 0, api.ErrBayEmpty)
	wantCounts(t, "empty", b, 1, 1, 1)
	for _, at := range []int{-1, 0, 1, 8192, math.MinInt, math.MaxInt} {
		wantRefused(t, b, 0, at, api.ErrBayEmpty) // ahead of ErrRange
		wantE(t, "Write", b.Write(0, at, nil), api.ErrBayEmpty)
	}
	wantCounts(t, "empty", b, 7, 7, 1)
	wantE(t, "Fail", b.Fail(0), api.ErrBayEmpty)
	wantE(t, "Wear -1", b.Wear(0, -1), api.ErrArg)
	wantE(t, "Wear 0", b.Wear(0, 0), api.ErrBayEmpty)
	wantE(t, "Wear 1", b.Wear(0, 1), api.ErrBayEmpty)
	wantE(t, "Pull", b.Pull(0), api.ErrBayEmpty)
	wantE(t, "Push", b.Push(0), api.ErrBayEmpty)
	wantEmpty(t, "empty", b, 0)
	b.Cut([]bool{true})
	wantEmpty(t, "empty, behind a cut", b, 0)
	wantCounts(t, "none of these is an operation", b, 7, 7, 1)
	ok(t, "Swap", b.Swap(0, 1))
	wantRead(t, b, 0, 0, ".")
}

// What a disk refuses is refused with its error, and is counted.
func TestDiskErrors(t *testing.T) {
	b := fresh(t, 2)
	wantWrite := func(at, size int, want api.Errno) {
		t.Helper()
		wantE(t, "Write", b.Write(0, at, make([]byte, size)), want)
	}
	for _, at := range []int{-1, 2, 8192, math.MinInt, math.MaxInt} {
		wantRefused(t, b, 0, at, api.ErrRange)
		wantWrite(at, 128, api.ErrRange)
		wantWrite(at, 0, api.ErrRange)
	}
	for _, size := range []int{0, 127, 129, 256} {
		wantWrite(1, size, api.ErrLength)
	}
	wantE(t, "Write of nil", b.Write(0, 0, nil), api.ErrLength)
	wantCounts(t, "refused", b, 5, 15, 0)
	wantDisk(t, "refused", b, 0, "..")
	ok(t, "Fail", b.Fail(0))
	wantOperations(t, "failed", b, 0, api.ErrFailed)
	wantRefused(t, b, 0, 99, api.ErrFailed)
	wantWrite(99, 1, api.ErrFailed)
	wantCounts(t, "failed", b, 7, 17, 1)
}

// Each count is of its operation only, and of all slots together.
func TestCounts(t *testing.T) {
	b := fresh(t, 2, 2, 0)
	for i := range 3 {
		b.Read(i, 0)
		wantCounts(t, "reads", b, i+1, 0, 0)
	}
	for i := range 5 {
		b.Write(i%3, 1, full('a'))
		wantCounts(t, "writes", b, 3, i+1, 0)
	}
	for i := range 7 {
		b.Flush(i % 3)
		wantCounts(t, "flushes", b, 3, 5, i+1)
	}
	b.Has(0)
	b.Sectors(0)
	b.Pending(0)
	b.Image(0)
	b.Slots()
	b.Dark()
	b.Counts()
	b.Wear(0, 9)
	b.Fail(0)
	b.Swap(0, 1)
	b.Pull(0)
	b.Load(0, full('x'))
	b.Push(1)
	b.Trip(4)
	wantCounts(t, "none of these is an operation", b, 3, 5, 7)
	b.Cut()
	wantCounts(t, "behind a cut", b, 3, 5, 7)
	wantOperations(t, "and on", b, 1, api.OK)
	wantCounts(t, "and on", b, 4, 6, 8)
}

func TestCountsAreACopy(t *testing.T) {
	b := fresh(t, 1)
	b.Flush(0)
	before := b.Counts()
	before.Flushes = 100
	wantCounts(t, "written over", b, 0, 0, 1)
	before = b.Counts()
	b.Flush(0)
	if before.Flushes != 1 {
		t.Errorf("flushes %d", before.Flushes)
	}
}

func TestTrip(t *testing.T) {
	for n := range 8 {
		b := fresh(t, 9)
		ok(t, "Trip", b.Trip(n))
		for i := range n {
			ok(t, "Write", b.Write(0, i, full('a')))
			if b.Dark() {
				t.Errorf("dark behind %d of %d", i+1, n)
			}
		}
		wantCounts(t, "performed", b, 0, n, 0)
		for range 3 {
			wantOperations(t, "dark", b, 0, api.ErrBayDark)
			if !b.Dark() {
				t.Errorf("not dark behind %d", n)
			}
		}
		wantCounts(t, "dark", b, 0, n, 0)
		pending := make([]int, n)
		for i := range pending {
			pending[i] = i
		}
		wantDisk(t, "dark", b, 0, ".........", pending...)
		b.Cut()
		wantOperations(t, "power", b, 0, api.OK)
		wantCounts(t, "power", b, 1, n+1, 1)
		wantDisk(t, "power", b, 0, "w........")
	}
}

// A trip is of each kind of operation, also of those that fail; what is no operation, or of no slot, is not taken off.
func TestTripCountsOperations(t *testing.T) {
	b := fresh(t, 2, 0)
	ok(t, "Trip", b.Trip(7))
	wantOperations(t, "3", b, 0, api.OK)
	wantOperations(t, "3 of an empty slot", b, 1, api.ErrBayEmpty)
	for _, slot := range noSlots(2) {
		wantOperations(t, "no slot", b, slot, api.ErrArg)
	}
	b.Has(0)
	b.Image(0)
	b.Pending(0)
	b.Wear(0, 100)
	b.Pull(0)
	b.Swap(0, 1)
	b.Push(1)
	wantRefused(t, b, 0, 1, api.ErrRange)
	if b.Dark() {
		t.Error("dark too early")
	}
	wantRefused(t, b, 0, 1, api.ErrBayDark)
	wantCounts(t, "seven", b, 3, 2, 2)
}

// Each of the operations may be the one at which the power fails; on an empty slot, too.
func TestTripAtEachOperation(t *testing.T) {
	for _, slot := range []int{0, 1} {
		for i, act := range []func(b *bay.Bay) api.Errno{
			func(b *bay.Bay) api.Errno { _, e := b.Read(slot, 0); return e },
			func(b *bay.Bay) api.Errno { return b.Write(slot, 0, full('z')) },
			func(b *bay.Bay) api.Errno { return b.Flush(slot) },
		} {
			b := fresh(t, 1, 0)
			writes(t, b, 0, "0a")
			ok(t, "Trip", b.Trip(0))
			for range 2 {
				wantE(t, "the trip", act(b), api.ErrBayDark)
				if !b.Dark() {
					t.Errorf("operation %d: not dark", i)
				}
			}
			wantCounts(t, "the trip", b, 0, 1, 0)
			wantDisk(t, "the trip", b, 0, ".", 0)
		}
	}
}

func TestTripIsSetAnew(t *testing.T) {
	for _, c := range [][]int{{0, 2}, {2, 0}, {0, 0}, {1, 3}, {3, 1}, {5, 4, 2}, {0, math.MaxInt, 1}} {
		b := fresh(t, 1)
		for _, n := range c {
			ok(t, "Trip", b.Trip(n))
			if b.Dark() {
				t.Errorf("%v: dark behind Trip", c)
			}
		}
		for range c[len(c)-1] {
			wantRead(t, b, 0, 0, ".")
		}
		wantRefused(t, b, 0, 0, api.ErrBayDark)
	}
	b := fresh(t, 1)
	ok(t, "Trip", b.Trip(2))
	wantRead(t, b, 0, 0, ".")
	ok(t, "Trip, with 1 left", b.Trip(2))
	wantRead(t, b, 0, 0, ".")
	wantRead(t, b, 0, 0, ".")
	wantRefused(t, b, 0, 0, api.ErrBayDark)
}

func TestTripRefused(t *testing.T) {
	b := fresh(t, 1)
	for _, n := range []int{-1, -2, math.MinInt} {
		wantE(t, "negative", b.Trip(n), api.ErrArg)
	}
	for range 3 {
		wantOperations(t, "no trip", b, 0, api.OK)
	}
	ok(t, "Trip", b.Trip(1))
	wantE(t, "negative", b.Trip(-1), api.ErrArg)
	wantRead(t, b, 0, 0, "w")
	wantRefused(t, b, 0, 0, api.ErrBayDark)
	for _, n := range []int{0, 1, 100, math.MaxInt} {
		wantE(t, "in the dark", b.Trip(n), api.ErrBayDark)
		wantRefused(t, b, 0, 0, api.ErrBayDark)
	}
	wantE(t, "negative, in the dark", b.Trip(-1), api.ErrArg) // ahead of ErrBayDark
	b.Cut()
	for range 3 {
		wantOperations(t, "what was refused is not kept", b, 0, api.OK)
	}
}

// A cut takes the trip away, whether it was reached or not.
func TestCutEndsTrip(t *testing.T) {
	for _, done := range []int{0, 1, 2, 3} {
		b := fresh(t, 1)
		ok(t, "Trip", b.Trip(2))
		for range done {
			b.Read(0, 0)
		}
		b.Cut()
		if b.Dark() {
			t.Error("dark behind a cut")
		}
		for range 5 {
			wantOperations(t, "no trip", b, 0, api.OK)
		}
	}
}

// The largest trip and wear are no less than any other.
func TestLargeNumbers(t *testing.T) {
	b := fresh(t, 1)
	ok(t, "Trip", b.Trip(math.MaxInt))
	ok(t, "Wear", b.Wear(0, math.MaxInt))
	for range 1000 {
		wantOperations(t, "far off", b, 0, api.OK)
	}
}

// In the dark all but Trip is done that is no operation.
func TestCallsInTheDark(t *testing.T) {
	b := fresh(t, 1, 1, 1, 0, 1)
	writes(t, b, 1, "0b")
	ok(t, "Flush", b.Flush(1))
	writes(t, b, 1, "0c")
	ok(t, "Trip", b.Trip(0))
	wantRefused(t, b, 0, 0, api.ErrBayDark)
	ok(t, "Fail", b.Fail(0))
	wantFailed(t, "failed", b, 0, 1)
	load(t, b, 0, "x")
	wantDisk(t, "loaded", b, 0, "x")
	wantDisk(t, "still in its cache", b, 1, "b", 0)
	ok(t, "Pull", b.Pull(1))
	wantEmpty(t, "pulled", b, 1)
	ok(t, "Push", b.Push(1))
	wantE(t, "Push", b.Push(1), api.ErrBayEmpty)
	ok(t, "Swap", b.Swap(3, 2))
	wantDisk(t, "swapped", b, 3, "..")
	ok(t, "Wear", b.Wear(2, 1))
	if b.Slots() != 5 || !b.Dark() {
		t.Errorf("%d slots, dark %v", b.Slots(), b.Dark())
	}
	for slot := range 5 {
		wantOperations(t, "dark", b, slot, api.ErrBayDark)
	}
	wantCounts(t, "dark", b, 0, 2, 1)
	b.Cut()
	wantRead(t, b, 0, 0, "x")
	wantRead(t, b, 1, 0, "b")
	wantRead(t, b, 2, 0, ".")
	wantRefused(t, b, 2, 0, api.ErrFailed)
	wantRead(t, b, 3, 1, ".")
	wantRead(t, b, 4, 0, ".")
}

func TestWear(t *testing.T) {
	for n := range 6 {
		b := fresh(t, 9)
		ok(t, "Wear", b.Wear(0, n))
		for i := range n {
			ok(t, "Write", b.Write(0, i, full('a')))
			if !b.Has(0) {
				t.Errorf("failed behind %d of %d", i+1, n)
			}
		}
		if image, e := b.Image(0); e != api.OK || !bytes.Equal(image, letters(".........")) || len(b.Pending(0)) != n || !b.Has(0) {
			t.Errorf("worn %d: image %q, %v, pending %v", n, brief(image), e, b.Pending(0))
		}
		for range 3 {
			wantOperations(t, "worn out", b, 0, api.ErrFailed)
			wantFailed(t, "worn out", b, 0, 9)
		}
		wantCounts(t, "worn out", b, 3, n+3, 3)
	}
}

// Each of the operations is one, also if it is refused by the disk; none that the bay refuses.
func TestWearCountsOperations(t *testing.T) {
	b := fresh(t, 1, 1)
	ok(t, "Wear", b.Wear(0, 5))
	wantOperations(t, "3", b, 0, api.OK)
	wantRefused(t, b, 0, 1, api.ErrRange)
	wantOperations(t, "another slot", b, 1, api.OK)
	wantOperations(t, "no slot", b, 2, api.ErrArg)
	b.Image(0)
	b.Pending(0)
	ok(t, "Trip", b.Trip(0))
	wantOperations(t, "dark", b, 0, api.ErrBayDark)
	b.Cut()
	wantE(t, "Write", b.Write(0, 0, nil), api.ErrLength)
	if !b.Has(0) {
		t.Error("failed too early")
	}
	wantE(t, "Flush", b.Flush(0), api.ErrFailed)
	wantFailed(t, "worn out", b, 0, 1)
	wantDisk(t, "the other one", b, 1, "w")
}

// Each of the operations may be the one at which the disk fails, ahead of whatever else is wrong with it.
func TestWearAtEachOperation(t *testing.T) {
	for _, act := range []func(b *bay.Bay) api.Errno{
		func(b *bay.Bay) api.Errno { _, e := b.Read(0, 0); return e },
		func(b *bay.Bay) api.Errno { _, e := b.Read(0, 7); return e },
		func(b *bay.Bay) api.Errno { return b.Write(0, 0, full('z')) },
		func(b *bay.Bay) api.Errno { return b.Write(0, -1, full('z')) },
		func(b *bay.Bay) api.Errno { return b.Write(0, 0, nil) },
		func(b *bay.Bay) api.Errno { return b.Flush(0) },
	} {
		b := fresh(t, 1)
		writes(t, b, 0, "0a")
		ok(t, "Wear", b.Wear(0, 0))
		wantDisk(t, "worn", b, 0, ".", 0)
		wantE(t, "worn out", act(b), api.ErrFailed)
		wantFailed(t, "worn out", b, 0, 1)
	}
}

func TestWearIsSetAnew(t *testing.T) {
	for _, c := range [][]int{{0, 2}, {2, 0}, {0, 0}, {1, 3}, {3, 1}, {5, 4, 2}} {
		b := fresh(t, 1)
		for _, n := range c {
			ok(t, "Wear", b.Wear(0, n))
		}
		for range c[len(c)-1] {
			wantRead(t, b, 0, 0, ".")
		}
		wantRefused(t, b, 0, 0, api.ErrFailed)
	}
	b := fresh(t, 1)
	ok(t, "Wear", b.Wear(0, 2))
	wantRead(t, b, 0, 0, ".")
	ok(t, "Wear, with 1 left", b.Wear(0, 2))
	wantRead(t, b, 0, 0, ".")
	wantRead(t, b, 0, 0, ".")
	wantRefused(t, b, 0, 0, api.ErrFailed)
}

func TestWearRefused(t *testing.T) {
	b := fresh(t, 1, 0)
	for _, n := range []int{-1, -2, math.MinInt} {
		wantE(t, "negative", b.Wear(0, n), api.ErrArg)
		wantE(t, "negative, and empty", b.Wear(1, n), api.ErrArg)
	}
	for range 5 {
		wantOperations(t, "not worn", b, 0, api.OK)
	}
	ok(t, "Wear", b.Wear(0, 1))
	wantE(t, "negative", b.Wear(0, -1), api.ErrArg)
	wantRead(t, b, 0, 0, "w")
	wantRefused(t, b, 0, 0, api.ErrFailed)
	ok(t, "a failed disk", b.Wear(0, 3))
	wantOperations(t, "is not mended", b, 0, api.ErrFailed)
}

// What is left of the wear goes with the disk.
func TestWearStays(t *testing.T) {
	for used := range 3 {
		b := fresh(t, 1)
		ok(t, "Wear", b.Wear(0, 3))
		for range used {
			wantRead(t, b, 0, 0, ".")
		}
		ok(t, "Pull", b.Pull(0))
		wantRefused(t, b, 0, 0, api.ErrBayEmpty) // not taken off
		ok(t, "Push", b.Push(0))
		wantRefused(t, b, 0, 0, api.ErrBayEmpty)
		b.Cut()
		b.Cut()
		for range 3 - used {
			wantRead(t, b, 0, 0, ".")
		}
		wantRefused(t, b, 0, 0, api.ErrFailed)
		wantFailed(t, "worn out", b, 0, 1)
	}
}

// It stays behind with the disk that has it.
func TestWearIsNotHandedOn(t *testing.T) {
	b := fresh(t, 1, 1)
	ok(t, "Wear", b.Wear(0, 0))
	ok(t, "Wear", b.Wear(1, 0))
	ok(t, "Pull", b.Pull(0))
	ok(t, "Swap", b.Swap(0, 1))
	ok(t, "Fail", b.Fail(1))
	load(t, b, 1, "x")
	for range 3 {
		wantOperations(t, "swapped", b, 0, api.OK)
		wantOperations(t, "loaded", b, 1, api.OK)
	}
	ok(t, "Wear of the new one", b.Wear(0, 9))
	ok(t, "Fail", b.Fail(0))
	ok(t, "Push", b.Push(0))
	b.Cut()
	wantRefused(t, b, 0, 0, api.ErrFailed) // the worn one is back
}

// Once it has failed, it is worn no longer; and the operation at which the power fails takes nothing off.
func TestTripAheadOfWear(t *testing.T) {
	b := fresh(t, 1)
	ok(t, "Wear", b.Wear(0, 1))
	ok(t, "Trip", b.Trip(0))
	for range 3 {
		wantOperations(t, "dark", b, 0, api.ErrBayDark)
	}
	b.Cut()
	wantRead(t, b, 0, 0, ".")
	ok(t, "Trip", b.Trip(1))
	wantRefused(t, b, 0, 0, api.ErrFailed)
	wantRefused(t, b, 0, 0, api.ErrBayDark)
	wantCounts(t, "both", b, 2, 0, 0)
}

func TestFail(t *testing.T) {
	b := fresh(t, 0)
	load(t, b, 0, "xy")
	writes(t, b, 0, "0a1b")
	for range 2 {
		ok(t, "Fail", b.Fail(0))
		wantFailed(t, "failed", b, 0, 2)
		wantOperations(t, "failed", b, 0, api.ErrFailed)
	}
	b.Cut([]bool{true, true})
	wantFailed(t, "behind a cut", b, 0, 2)
	wantOperations(t, "behind a cut", b, 0, api.ErrFailed)
	wantE(t, "none is aside", b.Push(0), api.ErrBayEmpty)
}

// A failed disk is one: it may be pulled, and comes back as it was.
func TestPullFailed(t *testing.T) {
	b := fresh(t, 2)
	ok(t, "Fail", b.Fail(0))
	ok(t, "Pull", b.Pull(0))
	wantEmpty(t, "pulled", b, 0)
	wantOperations(t, "pulled", b, 0, api.ErrBayEmpty)
	ok(t, "Push", b.Push(0))
	wantEmpty(t, "coming", b, 0)
	wantE(t, "one is coming", b.Swap(0, 1), api.ErrBayTaken)
	b.Cut()
	wantFailed(t, "back", b, 0, 2)
	wantOperations(t, "back", b, 0, api.ErrFailed)
	ok(t, "Swap", b.Swap(0, 1))
	wantDisk(t, "swapped", b, 0, ".")
}

func TestSwap(t *testing.T) {
	for _, sectors := range []int{1, 2, 8191, 8192} {
		b := fresh(t, 0)
		ok(t, "Swap", b.Swap(0, sectors))
		if image, e := b.Image(0); e != api.OK || !bytes.Equal(image, make([]byte, sectors*128)) || b.Sectors(0) != sectors || !b.Has(0) {
			t.Errorf("Swap(%d): image of %d bytes, %v, %d sectors", sectors, len(image), e, b.Sectors(0))
		}
		wantRead(t, b, 0, sectors-1, ".")
		wantRefused(t, b, 0, sectors, api.ErrRange)
		wantE(t, "taken", b.Swap(0, sectors), api.ErrBayTaken)
	}
}

func TestLoad(t *testing.T) {
	source := draw(1)
	for _, sectors := range []int{1, 2, 3, 8192} {
		b := fresh(t, 0)
		image := source.bytes(sectors * 128)
		ok(t, "Load", b.Load(0, image))
		if got, e := b.Image(0); e != api.OK || !bytes.Equal(got, image) || b.Sectors(0) != sectors || !b.Has(0) || len(b.Pending(0)) != 0 {
			t.Errorf("Load of %d sectors: image of %d bytes, %v", sectors, len(got), e)
		}
		if got, e := b.Read(0, sectors-1); e != api.OK || !bytes.Equal(got, image[(sectors-1)*128:]) {
			t.Errorf("Load of %d sectors: read %v", sectors, e)
		}
	}
}

// The sizes that a new disk may not have: of an empty slot, and of one with a failed disk, which stays.
func TestSwapAndLoadRefused(t *testing.T) {
	b := fresh(t, 0, 3)
	ok(t, "Fail", b.Fail(1))
	for slot := range 2 {
		for _, n := range []int{-1, -128, math.MinInt} {
			wantE(t, "negative", b.Swap(slot, n), api.ErrArg)
		}
		for _, n := range []int{0, 8193, math.MaxInt} {
			wantE(t, "no size", b.Swap(slot, n), api.ErrDiskSize)
		}
		for _, size := range []int{0, 1, 127, 129, 8192*128 + 1, 8193 * 128} {
			wantE(t, "no size", b.Load(slot, make([]byte, size)), api.ErrDiskSize)
		}
		wantE(t, "nil", b.Load(slot, nil), api.ErrDiskSize)
	}
	wantEmpty(t, "refused", b, 0)
	wantFailed(t, "refused", b, 1, 3)
	wantE(t, "none is aside", b.Push(1), api.ErrBayEmpty)
}

// wantTaken is about Swap and Load of a slot with no room: the error comes behind that of a negative size, and ahead of the disk's.
func wantTaken(t *testing.T, what string, b *bay.Bay, slot int) {
	t.Helper()
	for _, n := range []int{-1, math.MinInt} {
		wantE(t, what+": Swap", b.Swap(slot, n), api.ErrArg)
	}
	for _, n := range []int{0, 1, 8192, 8193} {
		wantE(t, what+": Swap", b.Swap(slot, n), api.ErrBayTaken)
	}
	for _, size := range []int{0, 127, 128} {
		wantE(t, what+": Load", b.Load(slot, make([]byte, size)), api.ErrBayTaken)
	}
}

func TestTakenByADisk(t *testing.T) {
	b := fresh(t, 0)
	load(t, b, 0, "xy")
	writes(t, b, 0, "0a")
	wantTaken(t, "a disk is in", b, 0)
	wantDisk(t, "it stays", b, 0, "xy", 0)
	wantE(t, "none is aside", b.Push(0), api.ErrBayEmpty) // ahead of ErrBayTaken
	ok(t, "Pull", b.Pull(0))
	load(t, b, 0, "z")
	wantE(t, "Push", b.Push(0), api.ErrBayTaken)
	wantTaken(t, "a disk is in, and one aside", b, 0)
	b.Cut()
	wantDisk(t, "what was refused is not coming", b, 0, "z")
	ok(t, "Fail", b.Fail(0))
	ok(t, "the one aside is still there", b.Push(0))
	b.Cut()
	wantDisk(t, "back", b, 0, "xy")
}

func TestTakenByOneThatIsComing(t *testing.T) {
	for _, failed := range []bool{false, true} {
		b := fresh(t, 0)
		load(t, b, 0, "xy")
		ok(t, "Pull", b.Pull(0))
		if failed {
			ok(t, "Swap", b.Swap(0, 3))
			ok(t, "Fail", b.Fail(0))
		}
		ok(t, "Push", b.Push(0))
		wantTaken(t, "one is coming", b, 0)
		wantE(t, "none is aside", b.Push(0), api.ErrBayEmpty)
		if failed {
			wantFailed(t, "the failed one is in", b, 0, 3)
			ok(t, "Pull of the failed one", b.Pull(0))
			wantE(t, "Push", b.Push(0), api.ErrBayTaken)
			wantTaken(t, "one is coming, and one aside", b, 0)
		}
		wantEmpty(t, "coming", b, 0)
		b.Cut()
		wantDisk(t, "back", b, 0, "xy")
		wantTaken(t, "it is in", b, 0)
	}
}

func TestFailedMakesRoom(t *testing.T) {
	b := fresh(t, 1, 1)
	ok(t, "Fail", b.Fail(0))
	ok(t, "Fail", b.Fail(1))
	ok(t, "Swap", b.Swap(0, 2))
	load(t, b, 1, "xyz")
	wantDisk(t, "swapped", b, 0, "..")
	wantDisk(t, "loaded", b, 1, "xyz")
	wantRead(t, b, 1, 2, "z")
	b.Cut()
	wantDisk(t, "swapped, behind a cut", b, 0, "..")
	wantDisk(t, "loaded, behind a cut", b, 1, "xyz")
}

// A failed disk stays in the slot until the one that is coming is there.
func TestPushWithAFailedDiskIn(t *testing.T) {
	b := fresh(t, 0)
	load(t, b, 0, "x")
	ok(t, "Pull", b.Pull(0))
	ok(t, "Swap", b.Swap(0, 3))
	ok(t, "Fail", b.Fail(0))
	ok(t, "Push", b.Push(0))
	wantFailed(t, "as before", b, 0, 3)
	wantOperations(t, "as before", b, 0, api.ErrFailed)
	ok(t, "Fail", b.Fail(0)) // the one that is in, not the one that is coming
	ok(t, "Wear", b.Wear(0, 0))
	wantOperations(t, "as before", b, 0, api.ErrFailed)
	b.Cut()
	wantDisk(t, "back", b, 0, "x")
	wantOperations(t, "back", b, 0, api.OK)
	wantE(t, "the failed one is gone", b.Push(0), api.ErrBayEmpty)
}

func TestPull(t *testing.T) {
	b := fresh(t, 0)
	load(t, b, 0, "xyz")
	writes(t, b, 0, "0a1b")
	ok(t, "Flush", b.Flush(0))
	writes(t, b, 0, "1c2d")
	ok(t, "Pull", b.Pull(0))
	for range 2 {
		wantEmpty(t, "pulled", b, 0)
		wantOperations(t, "pulled", b, 0, api.ErrBayEmpty)
		wantE(t, "Pull again", b.Pull(0), api.ErrBayEmpty)
		wantE(t, "Fail", b.Fail(0), api.ErrBayEmpty)
		wantE(t, "Wear", b.Wear(0, 0), api.ErrBayEmpty)
		b.Cut([]bool{true, true, true}) // it remains aside
	}
	ok(t, "Push", b.Push(0))
	for range 2 {
		wantEmpty(t, "coming", b, 0)
		wantOperations(t, "coming", b, 0, api.ErrBayEmpty)
		wantE(t, "Pull", b.Pull(0), api.ErrBayEmpty)
		wantE(t, "Push again", b.Push(0), api.ErrBayEmpty)
		wantE(t, "Fail", b.Fail(0), api.ErrBayEmpty)
		wantE(t, "Wear", b.Wear(0, 0), api.ErrBayEmpty)
	}
	b.Cut([]bool{true, true, true})
	wantDisk(t, "what had been flushed", b, 0, "abz")
	wantRead(t, b, 0, 1, "b")
	wantRead(t, b, 0, 2, "z")
	wantE(t, "none is aside", b.Push(0), api.ErrBayEmpty)
}

// The disk that was aside before is gone.
func TestPullTwice(t *testing.T) {
	b := fresh(t, 0)
	load(t, b, 0, "x")
	ok(t, "Pull", b.Pull(0))
	load(t, b, 0, "yy")
	ok(t, "Pull", b.Pull(0))
	ok(t, "Push", b.Push(0))
	wantE(t, "none is aside", b.Push(0), api.ErrBayEmpty)
	b.Cut()
	wantDisk(t, "the second one", b, 0, "yy")
	ok(t, "Fail", b.Fail(0))
	wantE(t, "none is aside", b.Push(0), api.ErrBayEmpty)
}

// A slot may have a disk of each kind.
func TestOneComingAndOneAside(t *testing.T) {
	b := fresh(t, 0)
	load(t, b, 0, "x")
	ok(t, "Pull", b.Pull(0))
	load(t, b, 0, "yy")
	ok(t, "Fail", b.Fail(0))
	ok(t, "Push", b.Push(0)) // x is coming
	ok(t, "Pull", b.Pull(0)) // yy, which has failed, is aside
	b.Cut()
	wantDisk(t, "the first one", b, 0, "x")
	wantE(t, "Push", b.Push(0), api.ErrBayTaken)
	ok(t, "Fail", b.Fail(0))
	ok(t, "Push", b.Push(0))
	b.Cut()
	wantFailed(t, "the second one", b, 0, 2)
}

func TestPushIsOnlyOnce(t *testing.T) {
	b := fresh(t, 0)
	load(t, b, 0, "x")
	ok(t, "Pull", b.Pull(0))
	ok(t, "Push", b.Push(0))
	b.Cut()
	writes(t, b, 0, "0a")
	ok(t, "Flush", b.Flush(0))
	b.Cut()
	wantDisk(t, "not once more", b, 0, "a")
	ok(t, "Fail", b.Fail(0))
	b.Cut()
	wantFailed(t, "not instead of this", b, 0, 1)
}

// Pulled and pushed while it is dark, with writes of before.
func TestAwayInTheDark(t *testing.T) {
	b := fresh(t, 0)
	load(t, b, 0, "xy")
	writes(t, b, 0, "0a")
	ok(t, "Trip", b.Trip(0))
	wantOperations(t, "dark", b, 0, api.ErrBayDark)
	ok(t, "Pull", b.Pull(0))
	ok(t, "Push", b.Push(0))
	wantEmpty(t, "coming", b, 0)
	b.Cut([]bool{true})
	wantDisk(t, "its cache was lost", b, 0, "xy")
	wantRead(t, b, 0, 0, "x")
}

func TestCut(t *testing.T) {
	const lost, kept = false, true
	for _, c := range []struct {
		keeps [][]bool
		after [3]string
	}{
		{nil, [3]string{"xy", "zz", "uv"}},
		{[][]bool{}, [3]string{"xy", "zz", "uv"}},
		{[][]bool{{kept}}, [3]string{"ay", "zz", "uv"}}, // fewer than slots
		{[][]bool{nil, {kept, kept}}, [3]string{"xy", "cz", "uv"}},
		{[][]bool{{lost, kept}, {}, {lost, kept}}, [3]string{"xb", "zz", "ue"}}, // as many
		{[][]bool{{kept, kept, kept}, {kept}, {kept}}, [3]string{"ab", "cz", "dv"}},
		{[][]bool{nil, nil, nil, {kept, kept}}, [3]string{"xy", "zz", "uv"}}, // more
		{[][]bool{{kept}, {lost}, {kept, kept}, {kept}, nil}, [3]string{"ay", "zz", "de"}},
	} {
		for _, dark := range []bool{false, true} {
			b := fresh(t, 0, 0, 0)
			for slot, image := range []string{"xy", "zz", "uv"} {
				load(t, b, slot, image)
			}
			writes(t, b, 0, "0a1b")
			writes(t, b, 1, "0c")
			writes(t, b, 2, "0d1e")
			if dark {
				ok(t, "Trip", b.Trip(0))
				wantOperations(t, "dark", b, 0, api.ErrBayDark)
			}
			wantDisk(t, "ahead of the cut", b, 0, "xy", 0, 1)
			b.Cut(c.keeps...)
			if b.Dark() {
				t.Error("dark behind a cut")
			}
			for slot, after := range c.after {
				wantDisk(t, "cut", b, slot, after)
				wantRead(t, b, slot, 0, after[:1])
				wantRead(t, b, slot, 1, after[1:])
			}
			b.Cut([]bool{kept, kept}, []bool{kept, kept}, []bool{kept, kept})
			for slot, after := range c.after {
				wantDisk(t, "cut again", b, slot, after)
			}
		}
	}
}

// The caches of empty slots and of failed disks are nothing; the places of keeps are the slots' numbers all the same.
func TestCutOfEmptyAndFailed(t *testing.T) {
	b := fresh(t, 0, 2, 2)
	writes(t, b, 1, "0a")
	ok(t, "Fail", b.Fail(1))
	writes(t, b, 2, "0b1c")
	b.Cut([]bool{true, true}, []bool{true, true}, []bool{false, true})
	wantEmpty(t, "empty", b, 0)
	wantFailed(t, "failed", b, 1, 2)
	wantDisk(t, "cut", b, 2, ".c")
}

// What a slot keeps is not laid on the disk that comes into it.
func TestCutOfAFailedDiskForOneThatIsComing(t *testing.T) {
	b := fresh(t, 0)
	load(t, b, 0, "xy")
	writes(t, b, 0, "0a1b")
	ok(t, "Pull", b.Pull(0))
	load(t, b, 0, "zz")
	writes(t, b, 0, "0c1d")
	ok(t, "Fail", b.Fail(0))
	ok(t, "Push", b.Push(0))
	b.Cut([]bool{true, true})
	wantDisk(t, "as it was pulled", b, 0, "xy")
}

// A flush is of one slot only, and outlives a cut.
func TestFlush(t *testing.T) {
	b := fresh(t, 1, 1)
	writes(t, b, 0, "0a")
	writes(t, b, 1, "0b")
	ok(t, "Flush", b.Flush(0))
	wantDisk(t, "flushed", b, 0, "a")
	wantDisk(t, "not flushed", b, 1, ".", 0)
	b.Cut([]bool{false}, []bool{false})
	wantDisk(t, "flushed", b, 0, "a")
	wantDisk(t, "not flushed", b, 1, ".")
}

func TestSlotsAreIndependent(t *testing.T) {
	b, other := fresh(t, 2, 2, 2), fresh(t, 2, 2, 2)
	same := func(what string, pending ...int) {
		t.Helper()
		wantDisk(t, what, b, 0, "..", pending...)
		wantDisk(t, what, b, 2, "..", pending...)
		wantDisk(t, what, other, 1, "..")
	}
	writes(t, b, 1, "0a1b")
	same("Write")
	ok(t, "Flush", b.Flush(1))
	writes(t, b, 0, "0x")
	writes(t, b, 2, "0x")
	ok(t, "Flush", b.Flush(1))
	same("Flush", 0)
	ok(t, "Wear", b.Wear(1, 0))
	wantRead(t, b, 0, 0, "x")
	wantRead(t, b, 2, 0, "x")
	ok(t, "Pull", b.Pull(1))
	same("Pull", 0)
	load(t, b, 1, "cc")
	same("Load", 0)
	ok(t, "Fail", b.Fail(1))
	same("Fail", 0)
	wantE(t, "of another slot", b.Push(0), api.ErrBayEmpty)
	ok(t, "Push", b.Push(1))
	same("Push", 0)
	b.Cut(nil, []bool{true, true})
	same("Cut")
	wantDisk(t, "and this one", b, 1, "ab")
}

func TestBaysAreIndependent(t *testing.T) {
	a, b := fresh(t, 1), fresh(t, 1)
	writes(t, b, 0, "0b")
	ok(t, "Trip", b.Trip(1))
	ok(t, "Trip", a.Trip(0))
	wantOperations(t, "dark", a, 0, api.ErrBayDark)
	if b.Dark() {
		t.Error("the other one is dark")
	}
	wantRead(t, b, 0, 0, "b")
	a.Cut([]bool{true})
	wantDisk(t, "not cut", b, 0, ".", 0)
	wantRefused(t, b, 0, 0, api.ErrBayDark)
	wantOperations(t, "power", a, 0, api.OK)
	wantCounts(t, "of its own", a, 1, 1, 1)
	wantCounts(t, "of its own", b, 1, 1, 0)
	ok(t, "Fail", a.Fail(0))
	ok(t, "Pull", a.Pull(0))
	wantDisk(t, "not pulled", b, 0, ".", 0)
	wantE(t, "none is aside", b.Push(0), api.ErrBayEmpty)
}

func TestWhatIsHandedInStays(t *testing.T) {
	sizes, data, image := []int{2, 0, 3}, full('a'), letters("xyz")
	keeps := [][]bool{{true, false}, nil, {true}, {false}}
	b := fresh(t, sizes...)
	ok(t, "Write", b.Write(0, 0, data))
	ok(t, "Write", b.Write(0, 1, data))
	ok(t, "Load", b.Load(1, image))
	ok(t, "Write", b.Write(1, 1, data))
	b.Cut(keeps...)
	ok(t, "Write", b.Write(1, 2, data))
	ok(t, "Flush", b.Flush(1))
	if !slices.Equal(sizes, []int{2, 0, 3}) || !bytes.Equal(data, full('a')) || !bytes.Equal(image, letters("xyz")) {
		t.Errorf("changed: %v, %q, %q", sizes, brief(data), brief(image))
	}
	want := [][]bool{{true, false}, nil, {true}, {false}}
	if !slices.EqualFunc(keeps, want, slices.Equal) {
		t.Errorf("changed: %v", keeps)
	}
}

func TestWhatIsHandedInIsNotKept(t *testing.T) {
	sizes := []int{2, 0}
	b := fresh(t, sizes...)
	sizes[0], sizes[1] = 9, 9
	wantDisk(t, "sizes written over", b, 0, "..")
	wantEmpty(t, "sizes written over", b, 1)
	image := letters("xy")
	ok(t, "Load", b.Load(1, image))
	scribble(image)
	wantDisk(t, "image written over", b, 1, "xy")
	data := full('a')
	ok(t, "Write", b.Write(0, 0, data))
	copy(data, full('b'))
	ok(t, "Write", b.Write(0, 1, data))
	scribble(data)
	wantRead(t, b, 0, 0, "a")
	wantRead(t, b, 0, 1, "b")
	keeps := [][]bool{{true, true}}
	b.Cut(keeps...)
	keeps[0][0], keeps[0] = false, nil
	wantDisk(t, "bools written over", b, 0, "ab")
	writes(t, b, 0, "0c")
	b.Cut()
	wantDisk(t, "bools of before", b, 0, "ab")
}

func TestSpareCapacityIsNotRead(t *testing.T) {
	sizes := make([]int, 1, 18)
	sizes[0] = 2
	b := fresh(t, sizes...)
	if b.Slots() != 1 {
		t.Errorf("%d slots", b.Slots())
	}
	all := letters("abc")
	wantE(t, "Write", b.Write(0, 0, all[:127]), api.ErrLength)
	ok(t, "Write", b.Write(0, 0, all[:128]))
	ok(t, "Write", b.Write(0, 1, all[128:256]))
	keep := []bool{true, true}
	keeps := [][]bool{keep[:1], {true}}
	b.Cut(keeps[:1]...)
	wantDisk(t, "one bool of two", b, 0, "a.")
	writes(t, b, 0, "0z")
	b.Cut(keeps[:0]...)
	wantDisk(t, "no list of two", b, 0, "a.")
	ok(t, "Fail", b.Fail(0))
	wantE(t, "Load", b.Load(0, all[:0]), api.ErrDiskSize)
	ok(t, "Load", b.Load(0, all[:256]))
	wantDisk(t, "two of three", b, 0, "ab")
	if !bytes.Equal(all, letters("abc")) || !slices.Equal(keep, []bool{true, true}) {
		t.Error("spare capacity is written")
	}
}

func TestResultsAreTheirOwners(t *testing.T) {
	b := fresh(t, 0)
	load(t, b, 0, "xy")
	writes(t, b, 0, "1b1c")
	for at, letter := range []string{"x", "c"} { // a durable one, and one in the cache
		first, _ := b.Read(0, at)
		second, _ := b.Read(0, at)
		scribble(first)
		if !bytes.Equal(second, letters(letter)) {
			t.Errorf("sector %d: what was read before has changed", at)
		}
		wantRead(t, b, 0, at, letter)
	}
	image, other := mustImage(t, b), mustImage(t, b)
	scribble(image)
	pending, more := b.Pending(0), b.Pending(0)
	for i := range pending {
		pending[i] = 99
	}
	if !bytes.Equal(other, letters("xy")) || !slices.Equal(more, []int{1, 1}) {
		t.Errorf("what came out before has changed: %q, %v", brief(other), more)
	}
	_ = append(more, 0)
	wantDisk(t, "scribbled on", b, 0, "xy", 1, 1)
	writes(t, b, 0, "0a")
	b.Cut([]bool{true, false, true})
	wantDisk(t, "and on", b, 0, "ab")
}

func mustImage(t *testing.T, b *bay.Bay) []byte {
	t.Helper()
	image, e := b.Image(0)
	ok(t, "Image", e)
	return image
}

func TestResultsStayBehindLaterActs(t *testing.T) {
	b := fresh(t, 0)
	load(t, b, 0, "x")
	durable, _ := b.Read(0, 0)
	image := mustImage(t, b)
	writes(t, b, 0, "0a")
	cached, _ := b.Read(0, 0)
	pending := b.Pending(0)
	writes(t, b, 0, "0b")
	b.Cut([]bool{true, true})
	writes(t, b, 0, "0c")
	b.Flush(0)
	b.Fail(0)
	b.Swap(0, 1)
	b.Pull(0)
	if !bytes.Equal(durable, full('x')) || !bytes.Equal(cached, full('a')) || !bytes.Equal(image, full('x')) || !slices.Equal(pending, []int{0}) {
		t.Errorf("changed: %q, %q, %q, %v", durable[0], cached[0], image[0], pending)
	}
}

// Without trip, wear and failures each disk is as one of its own.
func TestLikeDisksOfTheirOwn(t *testing.T) {
	source := draw(2)
	b := fresh(t, 5, 1, 3)
	alone := []*disk.Disk{}
	for slot := range 3 {
		d, _ := disk.New(b.Sectors(slot))
		alone = append(alone, d)
	}
	for range 3000 {
		slot := source.below(3)
		d := alone[slot]
		at, size := source.below(d.Sectors()+2)-1, min(128, 127+source.below(8))
		switch source.below(9) {
		case 0:
			wantE(t, "Flush", b.Flush(slot), d.Flush())
		case 1:
			keeps := [][]bool{source.bools(4), source.bools(2), source.bools(3)}
			b.Cut(keeps...)
			for i, d := range alone {
				d.Crash(keeps[i]...)
			}
		case 2, 3, 4:
			got, e := b.Read(slot, at)
			want, f := d.Read(at)
			if e != f || !bytes.Equal(got, want) {
				t.Fatalf("Read(%d, %d): %v; want %v", slot, at, e, f)
			}
		default:
			data := source.bytes(size)
			wantE(t, "Write", b.Write(slot, at, data), d.Write(at, data))
		}
		image, e := b.Image(slot)
		if e != api.OK || !bytes.Equal(image, d.Image()) || !slices.Equal(b.Pending(slot), d.Pending()) || !b.Has(slot) || b.Sectors(slot) != d.Sectors() {
			t.Fatalf("slot %d: image of %d bytes, %v, pending %v", slot, len(image), e, b.Pending(slot))
		}
	}
}

func TestErrorNumbers(t *testing.T) {
	got := []api.Errno{api.ErrArg, api.ErrFailed, api.ErrRange, api.ErrLength, api.ErrDiskSize, api.ErrBayDark, api.ErrBayEmpty, api.ErrBayTaken}
	if !slices.Equal(got, []api.Errno{1, 2, 3, 4, 40, 50, 51, 52}) {
		t.Errorf("numbers %v", got)
	}
}

func TestDocumentExamples(t *testing.T) {
	b := fresh(t, 2, 0, 3)
	if b.Slots() != 3 {
		t.Errorf("example 1: %d slots", b.Slots())
	}
	wantRefused(t, b, 1, 0, api.ErrBayEmpty)
	wantRefused(t, b, 0, 2, api.ErrRange)
	wantRefused(t, b, 3, 0, api.ErrArg)
	wantCounts(t, "example 1", b, 2, 0, 0)

	ok(t, "example 2", b.Trip(1))
	ok(t, "example 2", b.Write(0, 0, full('x')))
	wantE(t, "example 2", b.Write(0, 1, full('y')), api.ErrBayDark)
	wantE(t, "example 2", b.Flush(0), api.ErrBayDark)
	wantCounts(t, "example 2", b, 2, 1, 0)
	b.Cut([]bool{true})
	wantRead(t, b, 0, 0, "x")
	wantRead(t, b, 0, 1, ".")

	ok(t, "example 3", b.Wear(2, 1))
	wantRead(t, b, 2, 0, ".")
	wantRefused(t, b, 2, 0, api.ErrFailed)
	wantFailed(t, "example 3", b, 2, 3)
	ok(t, "example 3", b.Swap(2, 5))
	wantDisk(t, "example 3", b, 2, ".....")
	wantE(t, "example 3", b.Swap(2, 5), api.ErrBayTaken)

	ok(t, "example 4", b.Write(0, 0, full('x')))
	ok(t, "example 4", b.Flush(0))
	ok(t, "example 4", b.Write(0, 0, full('y')))
	ok(t, "example 4", b.Pull(0))
	wantRefused(t, b, 0, 0, api.ErrBayEmpty)
	ok(t, "example 4", b.Push(0))
	wantRefused(t, b, 0, 0, api.ErrBayEmpty)
	b.Cut()
	wantRead(t, b, 0, 0, "x")
	wantE(t, "example 4", b.Push(0), api.ErrBayEmpty)
}
