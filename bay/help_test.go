package bay_test

import (
	"bytes"
	"math"
	"slices"
	"testing"

	"spindle/api"
	"spindle/bay"
)

// full is a sector of one byte.
func full(c byte) []byte { return bytes.Repeat([]byte{c}, api.Sector) }

// letters are sectors, one behind the other, each of which consists of its letter; a dot is one of zeros.
func letters(text string) []byte {
	b := []byte{}
	for _, c := range []byte(text) {
		if c == '.' {
			c = 0
		}
		b = append(b, full(c)...)
	}
	return b
}

// brief is a byte of each sector.
func brief(b []byte) []byte {
	short := []byte{}
	for i := 0; i < len(b); i += api.Sector {
		short = append(short, b[i])
	}
	return short
}

// scribble writes all over b and behind it.
func scribble(b []byte) {
	b = b[:cap(b)]
	for i := range b {
		b[i] = ^b[i]
	}
}

// draw is a source of numbers without a pattern, the same ones at every run.
type draw uint64

func (d *draw) below(n int) int {
	*d = *d*6364136223846793005 + 1442695040888963407
	return int(uint64(*d) >> 33 % uint64(n))
}

func (d *draw) bytes(n int) []byte {
	b := make([]byte, n)
	for i := range b {
		b[i] = byte(d.below(256))
	}
	return b
}

func (d *draw) bools(n int) []bool {
	b := make([]bool, n)
	for i := range b {
		b[i] = d.below(2) == 1
	}
	return b
}

// noSlots are numbers of slots that a bay of so many does not have.
func noSlots(slots int) []int {
	return []int{-1, slots, slots + 1, 17, 18, -17, math.MinInt, math.MaxInt}
}

func fresh(t *testing.T, sizes ...int) *bay.Bay {
	t.Helper()
	b, e := bay.New(sizes...)
	if b == nil || e != api.OK {
		t.Fatalf("New(%v): %v, %v", sizes, b, e)
	}
	return b
}

// wantE is about the error of a call.
func wantE(t *testing.T, what string, got, want api.Errno) {
	t.Helper()
	if got != want {
		t.Errorf("%s: %v; want %v", what, got, want)
	}
}

// ok is about a call that is to succeed.
func ok(t *testing.T, what string, got api.Errno) {
	t.Helper()
	wantE(t, what, got, api.OK)
}

// wantRead reads a sector that consists of one letter.
func wantRead(t *testing.T, b *bay.Bay, slot, at int, letter string) {
	t.Helper()
	got, e := b.Read(slot, at)
	if e != api.OK || !bytes.Equal(got, letters(letter)) {
		t.Errorf("Read(%d, %d): %q, %v; want %s", slot, at, brief(got), e, letter)
	}
}

// wantRefused is about a read that is refused: there are no bytes beside the error.
func wantRefused(t *testing.T, b *bay.Bay, slot, at int, want api.Errno) {
	t.Helper()
	if got, e := b.Read(slot, at); len(got) != 0 || e != want {
		t.Errorf("Read(%d, %d): %d bytes, %v; want %v", slot, at, len(got), e, want)
	}
}

// wantOperations is about all three operations, of a slot and of its sector 0.
func wantOperations(t *testing.T, what string, b *bay.Bay, slot int, want api.Errno) {
	t.Helper()
	data, e := b.Read(slot, 0)
	if e != want || (len(data) != 0) != (want == api.OK) {
		t.Errorf("%s: Read(%d): %d bytes, %v; want %v", what, slot, len(data), e, want)
	}
	wantE(t, what+": Write", b.Write(slot, 0, full('w')), want)
	wantE(t, what+": Flush", b.Flush(slot), want)
}

// writes writes letters to a slot: of each pair the sector, and what it becomes.
func writes(t *testing.T, b *bay.Bay, slot int, pairs string) {
	t.Helper()
	for i := 0; i < len(pairs); i += 2 {
		ok(t, "Write", b.Write(slot, int(pairs[i]-'0'), letters(pairs[i+1:i+2])))
	}
}

// load lays a disk with these letters into a slot.
func load(t *testing.T, b *bay.Bay, slot int, image string) {
	t.Helper()
	ok(t, "Load", b.Load(slot, letters(image)))
}

func wantCounts(t *testing.T, what string, b *bay.Bay, reads, writes, flushes int) {
	t.Helper()
	if got := (api.Counts{Reads: reads, Writes: writes, Flushes: flushes}); b.Counts() != got {
		t.Errorf("%s: counts %v; want %v", what, b.Counts(), got)
	}
}

// wantDisk asks for a disk that has not failed, without operations, twice, as asking changes nothing.
func wantDisk(t *testing.T, what string, b *bay.Bay, slot int, image string, pending ...int) {
	t.Helper()
	for range 2 {
		if !b.Has(slot) || b.Sectors(slot) != len(image) {
			t.Errorf("%s: slot %d: has %v, %d sectors; want %d", what, slot, b.Has(slot), b.Sectors(slot), len(image))
		}
		if got, e := b.Image(slot); e != api.OK || !bytes.Equal(got, letters(image)) {
			t.Errorf("%s: slot %d: image %q, %v; want %s", what, slot, brief(got), e, image)
		}
		if got := b.Pending(slot); !slices.Equal(got, pending) {
			t.Errorf("%s: slot %d: pending %v; want %v", what, slot, got, pending)
		}
	}
}

// wantNone asks, without operations, for a slot that has no disk, or a failed one of so many sectors.
func wantNone(t *testing.T, what string, b *bay.Bay, slot, sectors int, want api.Errno) {
	t.Helper()
	for range 2 {
		if b.Has(slot) || b.Sectors(slot) != sectors || len(b.Pending(slot)) != 0 {
			t.Errorf("%s: slot %d: has %v, %d sectors, pending %v", what, slot, b.Has(slot), b.Sectors(slot), b.Pending(slot))
		}
		if got, e := b.Image(slot); len(got) != 0 || e != want {
			t.Errorf("%s: slot %d: image of %d bytes, %v; want %v", what, slot, len(got), e, want)
		}
	}
}

func wantEmpty(t *testing.T, what string, b *bay.Bay, slot int) {
	t.Helper()
	wantNone(t, what, b, slot, 0, api.ErrBayEmpty)
}

func wantFailed(t *testing.T, what string, b *bay.Bay, slot, sectors int) {
	t.Helper()
	wantNone(t, what, b, slot, sectors, api.OK)
}
