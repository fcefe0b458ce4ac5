package heal_test

import (
	"bytes"
	"encoding/binary"
	"math"
	"runtime/debug"
	"slices"
	"testing"

	"spindle/api"
	"spindle/bay"
	"spindle/heal"
	"spindle/rows"
	"spindle/wal"
)

// TestMain spares the collector: the tests throw away disks by the thousand, and hold few of them at a time.
func TestMain(m *testing.M) {
	debug.SetGCPercent(800)
	m.Run()
}

func shape(members, chunk, stripes int) api.Geometry {
	return api.Geometry{Members: members, Chunk: chunk, Stripes: stripes}
}

// three is the geometry of the chapter's examples.
func three() api.Geometry { return shape(3, 1, 2) }

// shapes are some geometries: the smallest, the broadest, and some between; fewer stripes than members, and more.
func shapes() []api.Geometry {
	return []api.Geometry{shape(3, 1, 1), three(), shape(3, 2, 4), shape(4, 2, 5), shape(5, 3, 2), shape(4, 16, 2), shape(16, 1, 2), shape(16, 2, 1)}
}

// wild are numbers that are out of each bound, some of which would be in if fewer bits of them counted.
func wild() []int {
	return []int{-1, -2, -3, 1<<8 + 4, 1<<16 + 4, 1<<32 + 4, -1<<32 + 4, 1<<32 + 1, math.MaxInt, math.MaxInt - 1, math.MinInt, math.MinInt + 1, math.MinInt + 4}
}

// full is a sector of one byte.
func full(c byte) []byte { return bytes.Repeat([]byte{c}, 128) }

// random is a sector that is like no other.
func random(serial int) []byte {
	b := []byte{}
	for x := uint64(serial)<<8 + 1; len(b) < 128; x++ {
		y := x * 0x9e3779b97f4a7c15
		y = (y ^ y>>29) * 0xbf58476d1ce4e5b9
		b = binary.LittleEndian.AppendUint64(b, y^y>>32)
	}
	return b
}

// ring is how many places the journals here have: enough for any batch that the tests write.
const ring = 200

// pair is a Rows with its bay, and a plain one with a bay of its own: whatever is done is done with the two of them, and is to look alike.
type pair struct {
	t      *testing.T
	g      api.Geometry
	lazy   bool
	b      *bay.Bay
	r      *rows.Rows
	p      *plain
	q      *rows.Rows // lays the batches on the plain one's disks
	w, v   *wal.Wal   // the journals of the two
	holds  map[spot]string
	serial int
}

// made has disks with even rows, whose sectors are all unlike, and a sector more than they need.
func made(t *testing.T, g api.Geometry, lazy bool) *pair {
	t.Helper()
	x := &pair{t: t, g: g, lazy: lazy, holds: map[spot]string{}}
	b, c := x.disks(), x.disks()
	x.b = b
	x.r, x.w = x.rows(b)
	x.q, x.v = x.rows(c)
	x.p = &plain{b: c, g: g, from: slices.Repeat([]int{-1}, g.Members), waiting: map[spot]string{}}
	x.compare("made")
	return x
}

func (x *pair) disks() *bay.Bay {
	x.t.Helper()
	g := x.g
	b, e := bay.New(append(slices.Repeat([]int{rowsOf(g) + 2}, g.Members), ring+2)...)
	if e != api.OK {
		x.t.Fatalf("bay.New: %v", e)
	}
	for row := range rowsOf(g) {
		sum := string(full(0))
		for m := range g.Members {
			s := string(random(-1000 - 20*row - m))
			if m == g.Members-1 {
				s = sum
			}
			sum = added(sum, s)
			x.holds[spot{m, row}] = s
			b.Write(m, 1+row, []byte(s))
		}
	}
	for m := range g.Members {
		b.Write(m, 0, random(-1-m))
		b.Write(m, rowsOf(g)+1, random(-100-m))
		b.Flush(m)
	}
	return b
}

func (x *pair) rows(b *bay.Bay) (*rows.Rows, *wal.Wal) {
	x.t.Helper()
	w, e := wal.Format(b, x.g.Members, ring, 1)
	if e != api.OK {
		x.t.Fatalf("wal.Format: %v", e)
	}
	r, e := rows.New(b, x.g, w, x.lazy)
	if e != api.OK {
		x.t.Fatalf("rows.New: %v", e)
	}
	return r, w
}

// bays are the two.
func (x *pair) bays() []*bay.Bay { return []*bay.Bay{x.b, x.p.b} }

// compare wants all that can be seen without an operation to be alike.
func (x *pair) compare(what string) {
	t := x.t
	t.Helper()
	if x.b.Counts() != x.p.b.Counts() || x.b.Dark() != x.p.b.Dark() {
		t.Fatalf("%s: %v operations, dark %v; want %v, %v", what, x.b.Counts(), x.b.Dark(), x.p.b.Counts(), x.p.b.Dark())
	}
	for slot := range x.b.Slots() {
		if l, want := x.b.Pending(slot), x.p.b.Pending(slot); !slices.Equal(l, want) {
			t.Fatalf("%s: slot %d: writes of the sectors %v; want %v", what, slot, l, want)
		}
		image, e := x.b.Image(slot)
		want, f := x.p.b.Image(slot)
		if e != f || !bytes.Equal(image, want) {
			t.Fatalf("%s: slot %d has other bytes", what, slot)
		}
		if x.b.Has(slot) != x.p.b.Has(slot) {
			t.Fatalf("%s: slot %d has a disk: %v", what, slot, x.b.Has(slot))
		}
	}
	if x.r.Pending() != len(x.p.waiting) {
		t.Fatalf("%s: %d patches wait; want %d", what, x.r.Pending(), len(x.p.waiting))
	}
	for m := -1; m <= x.g.Members; m++ {
		for row := -1; row <= rowsOf(x.g)+1; row++ {
			if x.r.Down(m, row) != x.p.down(m, row) {
				t.Fatalf("%s: Down(%d, %d): %v", what, m, row, x.r.Down(m, row))
			}
		}
	}
}

// step makes a Step on both, and wants this trouble.
func (x *pair) step(member, stripe int, want api.Trouble) {
	x.t.Helper()
	if u := x.attempt(member, stripe); u != want {
		x.t.Fatalf("Step(%v, %d, %d): %v; want %v", x.g, member, stripe, u, want)
	}
}

// attempt makes a Step on both, whatever comes of it.
func (x *pair) attempt(member, stripe int) api.Trouble {
	x.t.Helper()
	sealed := x.r.Sealed()
	u, want := heal.Step(x.b, x.g, x.r, member, stripe), x.p.step(x.g, member, stripe)
	if u != want {
		x.t.Fatalf("Step(%v, %d, %d): %v; plainly %v", x.g, member, stripe, u, want)
	}
	if x.r.Sealed() != sealed {
		x.t.Fatalf("Step(%v, %d, %d): sealed %v", x.g, member, stripe, !sealed)
	}
	x.compare("Step")
	return u
}

// spend makes a Step with this trouble, and wants it to take so many operations.
func (x *pair) spend(member, stripe int, want api.Trouble, reads, writes, flushes int) {
	x.t.Helper()
	was := x.b.Counts()
	x.step(member, stripe, want)
	was.Reads, was.Writes, was.Flushes = was.Reads+reads, was.Writes+writes, was.Flushes+flushes
	if x.b.Counts() != was {
		x.t.Fatalf("Step(%v, %d, %d): %v operations; want %v", x.g, member, stripe, x.b.Counts(), was)
	}
}

func (x *pair) mark(member int, down bool, from int) {
	x.t.Helper()
	x.r.Mark(member, down, from)
	x.q.Mark(member, down, from)
	x.p.mark(member, down, from)
	x.compare("Mark")
}

// renew gives a member a new disk of noise, and takes it down from a row on.
func (x *pair) renew(member, from int) {
	x.t.Helper()
	for _, b := range x.bays() {
		image := []byte{}
		for at := range rowsOf(x.g) + 2 {
			image = append(image, noise(member, at)...)
		}
		b.Fail(member)
		b.Load(member, image)
	}
	x.mark(member, true, from)
}

// noise is what a new disk of a member has in a sector.
func noise(member, at int) []byte { return random(-100000 - 5000*member - at) }

// write writes some blocks, anew. It is to have no trouble.
func (x *pair) write(blocks ...int) {
	x.t.Helper()
	l := []api.Put{}
	written := map[spot]bool{}
	for _, block := range blocks {
		x.serial++
		at, data := spotOf(x.g, block), string(random(x.serial))
		parity := spot{parityOf(x.g, at.row), at.row}
		x.holds[parity] = added(x.holds[parity], added(x.holds[at], data))
		x.holds[at] = data
		written[at], written[parity] = true, true
		l = append(l, api.Put{Block: block, Data: []byte(data)})
	}
	for _, r := range []*rows.Rows{x.r, x.q} {
		if u := r.Write(l); u != noTrouble() {
			x.t.Fatalf("Write of %v: %v", blocks, u)
		}
	}
	clear(x.p.waiting)
	for at := range written {
		if x.lazy && !x.p.down(at.member, at.row) {
			x.p.waiting[at] = x.holds[at]
		}
	}
	x.compare("Write")
}

// settle lays what waits in its place.
func (x *pair) settle() {
	x.t.Helper()
	for _, r := range []*rows.Rows{x.r, x.q} {
		if u := r.Settle(); u != noTrouble() {
			x.t.Fatalf("Settle: %v", u)
		}
	}
	clear(x.p.waiting)
	x.compare("Settle")
}

// sync makes the last batch sure, past the Rows: what waits, waits on.
func (x *pair) sync() {
	x.t.Helper()
	for _, w := range []*wal.Wal{x.w, x.v} {
		if e := w.Sync(); e != api.OK {
			x.t.Fatalf("Sync: %v", e)
		}
	}
	x.compare("Sync")
}

func (x *pair) trip(n int) {
	for _, b := range x.bays() {
		b.Trip(n)
	}
}

func (x *pair) wear(slot, n int) {
	for _, b := range x.bays() {
		b.Wear(slot, n)
	}
}

func (x *pair) fail(slot int) {
	for _, b := range x.bays() {
		b.Fail(slot)
	}
}

func (x *pair) pull(slot int) {
	for _, b := range x.bays() {
		b.Pull(slot)
	}
}

// swap is a disk of noughts, with so many sectors, instead of the one in a slot.
func (x *pair) swap(slot, sectors int) {
	for _, b := range x.bays() {
		b.Fail(slot)
		b.Swap(slot, sectors)
	}
}

func (x *pair) cut(keeps ...[]bool) {
	x.t.Helper()
	for _, b := range x.bays() {
		b.Cut(keeps...)
	}
	x.compare("Cut")
}

// durable is what would outlive a cut that keeps nothing, of a sector.
func (x *pair) durable(slot, at int) string {
	image, _ := x.b.Image(slot)
	return string(image[128*at : 128*at+128])
}

// wantRebuilt wants a disk that was new to have some stripes for good, and nothing but its noise elsewhere.
func (x *pair) wantRebuilt(member int, stripes ...int) {
	x.t.Helper()
	for at := range rowsOf(x.g) + 2 {
		row, want := at-1, string(noise(member, at))
		if row >= 0 && row < rowsOf(x.g) && slices.Contains(stripes, row/x.g.Chunk) {
			want = x.holds[spot{member, row}]
		}
		if x.durable(member, at) != want {
			x.t.Fatalf("%v: member %d, stripes %v: sector %d is another one", x.g, member, stripes, at)
		}
	}
}

// wantBlocks wants all blocks to be read as they were written last.
func (x *pair) wantBlocks() {
	x.t.Helper()
	for block := range blocksOf(x.g) {
		data, u := x.r.Read(block)
		x.q.Read(block)
		if u != noTrouble() || string(data) != x.holds[spotOf(x.g, block)] {
			x.t.Fatalf("%v: block %d: %v, %x", x.g, block, u, data)
		}
	}
}

// others are all members but one, rising.
func (x *pair) others(member int) []int {
	l := []int{}
	for m := range x.g.Members {
		if m != member {
			l = append(l, m)
		}
	}
	return l
}
