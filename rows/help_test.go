package rows_test

import (
	"bytes"
	"encoding/binary"
	"runtime/debug"
	"slices"
	"strconv"
	"strings"
	"testing"

	"spindle/api"
	"spindle/bay"
	"spindle/rows"
	"spindle/wal"
)

// TestMain spares the collector: the tests throw away disks by the thousand, and hold few of them at a time.
func TestMain(m *testing.M) {
	debug.SetGCPercent(800)
	m.Run()
}

func shape(members, chunk, stripes int) api.Geometry {
	return api.Geometry{Members: members, Chunk: chunk, Stripes: stripes}
}

// three is the geometry of the chapter's examples.
func three() api.Geometry { return shape(3, 1, 2) }

// four is that of the examples of plans.
func four() api.Geometry { return shape(4, 2, 5) }

// full is a sector of one byte.
func full(c byte) []byte { return bytes.Repeat([]byte{c}, 128) }

// random is a sector that is like no other.
func random(serial int) []byte {
	b := []byte{}
	for x := uint64(serial)<<8 + 1; len(b) < 128; x++ {
		y := x * 0x9e3779b97f4a7c15
		y = (y ^ y>>29) * 0xbf58476d1ce4e5b9
		b = binary.LittleEndian.AppendUint64(b, y^y>>32)
	}
	return b
}

// pair is a Rows, and a plain one on a bay of its own: whatever is done is done with the two of them, and is to look alike.
type pair struct {
	t      *testing.T
	g      api.Geometry
	ring   int // 0 if there is no journal
	b      *bay.Bay
	w      *wal.Wal
	r      *rows.Rows
	p      *plain
	serial int // of the last sector that was made up
}

// made is a Rows over disks whose rows are even, with a journal that has been formatted (ring 0: without one). Every disk has a sector more than it needs.
func made(t *testing.T, g api.Geometry, ring int, lazy bool) *pair {
	t.Helper()
	x := &pair{t: t, g: g, ring: ring}
	x.b, x.w = laid(t, g, ring)
	b, v := laid(t, g, ring)
	r, e := rows.New(x.b, g, x.w, lazy)
	if r == nil || e != api.OK {
		t.Fatalf("New(%v): %v", g, e)
	}
	x.r, x.p = r, plainNew(b, g, v, lazy)
	x.compare("New")
	return x
}

// laid are disks with even rows, and a journal.
func laid(t *testing.T, g api.Geometry, ring int) (*bay.Bay, *wal.Wal) {
	t.Helper()
	b, e := bay.New(append(slices.Repeat([]int{rowsOf(g) + 2}, g.Members), ring+3)...)
	if e != api.OK {
		t.Fatalf("bay.New: %v", e)
	}
	for m := range g.Members {
		b.Write(m, 0, random(-1-m))
		b.Write(m, rowsOf(g)+1, random(-100-m))
	}
	for row := range rowsOf(g) {
		sum := string(full(0))
		for m := range g.Members - 1 {
			b.Write(m, 1+row, random(-1000-20*row-m))
			sum = added(sum, string(random(-1000-20*row-m)))
		}
		b.Write(g.Members-1, 1+row, []byte(sum))
	}
	for m := range g.Members {
		b.Flush(m)
	}
	if ring == 0 {
		return b, nil
	}
	w, e := wal.Format(b, g.Members, ring, 1)
	if e != api.OK {
		t.Fatalf("wal.Format: %v", e)
	}
	return b, w
}

// face is what a journal tells of itself.
type face struct {
	size, used int
	next       uint64
	sure       bool
}

func faceOf(w *wal.Wal) face {
	if w == nil {
		return face{}
	}
	return face{w.Size(), w.Used(), w.Next(), w.Sure()}
}

// compare wants all that can be seen without an operation to be alike.
func (x *pair) compare(what string) {
	t := x.t
	t.Helper()
	if x.b.Counts() != x.p.b.Counts() || x.b.Dark() != x.p.b.Dark() {
		t.Fatalf("%s: %v operations, dark %v; want %v, %v", what, x.b.Counts(), x.b.Dark(), x.p.b.Counts(), x.p.b.Dark())
	}
	for slot := range x.b.Slots() {
		if l, want := x.b.Pending(slot), x.p.b.Pending(slot); !slices.Equal(l, want) {
			t.Fatalf("%s: slot %d: writes of the sectors %v; want %v", what, slot, l, want)
		}
		image, e := x.b.Image(slot)
		want, f := x.p.b.Image(slot)
		if e != f || !bytes.Equal(image, want) {
			t.Fatalf("%s: slot %d has other bytes", what, slot)
		}
	}
	if got, want := faceOf(x.w), faceOf(x.p.w); got != want {
		t.Fatalf("%s: size, used, next and sure: %v; want %v", what, got, want)
	}
	if x.r.Sealed() != x.p.sealed || x.r.Pending() != len(x.p.waiting) {
		t.Fatalf("%s: sealed %v, pending %d; want %v, %d", what, x.r.Sealed(), x.r.Pending(), x.p.sealed, len(x.p.waiting))
	}
	for m := -1; m <= x.g.Members; m++ {
		for row := -1; row <= rowsOf(x.g)+1; row++ {
			if x.r.Down(m, row) != x.p.down(m, row) {
				t.Fatalf("%s: Down(%d, %d): %v", what, m, row, x.r.Down(m, row))
			}
		}
	}
}

// same wants both to have had this trouble; it compares everything, too.
func (x *pair) same(what string, got, want api.Trouble) api.Trouble {
	x.t.Helper()
	if got != want {
		x.t.Fatalf("%s: %v; want %v", what, got, want)
	}
	x.compare(what)
	return got
}

// answered wants both to have answered these bytes and this trouble.
func (x *pair) answered(what string, got []byte, want string, u, v api.Trouble) api.Trouble {
	x.t.Helper()
	if string(got) != want {
		x.t.Fatalf("%s: %x; want %x", what, got, want)
	}
	return x.same(what, u, v)
}

func (x *pair) sector(member, row int) ([]byte, api.Trouble) {
	x.t.Helper()
	got, u := x.r.Sector(member, row)
	want, v := x.p.sector(member, row)
	return got, x.answered("Sector", got, want, u, v)
}

func (x *pair) read(block int) ([]byte, api.Trouble) {
	x.t.Helper()
	got, u := x.r.Read(block)
	want, v := x.p.read(block)
	return got, x.answered("Read", got, want, u, v)
}

func (x *pair) write(puts []api.Put) api.Trouble {
	x.t.Helper()
	return x.same("Write", x.r.Write(puts), x.p.write(puts))
}

func (x *pair) place(patches []api.Patch) api.Trouble {
	x.t.Helper()
	return x.same("Place", x.r.Place(patches), x.p.place(patches))
}

func (x *pair) settle() api.Trouble {
	x.t.Helper()
	return x.same("Settle", x.r.Settle(), x.p.settle())
}

func (x *pair) finish() api.Trouble {
	x.t.Helper()
	return x.same("Finish", x.r.Finish(), x.p.finish())
}

func (x *pair) back() api.Trouble {
	x.t.Helper()
	x.r.Back()
	x.p.back()
	return x.same("Back", noTrouble(), noTrouble())
}

func (x *pair) barrier() api.Trouble {
	x.t.Helper()
	return x.same("Barrier", x.r.Barrier(), x.p.barrier())
}

func (x *pair) empty() api.Trouble {
	x.t.Helper()
	return x.same("Empty", x.r.Empty(), x.p.empty())
}

func (x *pair) mark(member int, down bool, from int) api.Trouble {
	x.t.Helper()
	x.r.Mark(member, down, from)
	x.p.mark(member, down, from)
	return x.same("Mark", noTrouble(), noTrouble())
}

// syncs calls the journal itself, past the Rows.
func (x *pair) syncs() api.Trouble {
	x.t.Helper()
	return x.same("Sync", api.Trouble{Err: x.w.Sync()}, api.Trouble{Err: x.p.w.Sync()})
}

// puts are these blocks, with bytes that were not there before.
func (x *pair) puts(blocks ...int) []api.Put {
	l := []api.Put{}
	for _, n := range blocks {
		x.serial++
		l = append(l, api.Put{Block: n, Data: random(x.serial)})
	}
	return l
}

// patches are for these members and rows, by turns.
func (x *pair) patches(at ...int) []api.Patch {
	l := []api.Patch{}
	for i := 0; i < len(at); i += 2 {
		x.serial++
		l = append(l, api.Patch{Member: at[i], Row: at[i+1], Data: random(x.serial)})
	}
	return l
}

// attempt makes a call by its name and its numbers, as in write.0.2, and answers its trouble.
func (x *pair) attempt(call string) (u api.Trouble) {
	x.t.Helper()
	words := strings.Split(call, ".")
	n := []int{}
	for _, word := range words[1:] {
		i, err := strconv.Atoi(word)
		if err != nil {
			x.t.Fatal(err)
		}
		n = append(n, i)
	}
	switch words[0] {
	case "write":
		u = x.write(x.puts(n...))
	case "place":
		u = x.place(x.patches(n...))
	case "read":
		_, u = x.read(n[0])
	case "sector":
		_, u = x.sector(n[0], n[1])
	case "down":
		u = x.mark(n[0], true, n[1])
	case "up":
		u = x.mark(n[0], false, 0)
	default:
		u = x.bare(words[0])
	}
	return u
}

// bare makes a call that takes nothing.
func (x *pair) bare(call string) api.Trouble {
	x.t.Helper()
	calls := map[string]func() api.Trouble{
		"settle": x.settle, "finish": x.finish, "back": x.back, "barrier": x.barrier, "empty": x.empty, "sync": x.syncs,
	}
	if calls[call] == nil {
		x.t.Fatalf("no call %q", call)
	}
	return calls[call]()
}

// call makes a call, and wants this trouble.
func (x *pair) call(call string, slot int, e api.Errno) {
	x.t.Helper()
	if u := x.attempt(call); u != (api.Trouble{Slot: slot, Err: e}) {
		x.t.Fatalf("%s: %v; want slot %d and %v", call, u, slot, e)
	}
}

// run makes calls one after the other, none of which has a trouble.
func (x *pair) run(script string) {
	x.t.Helper()
	for _, call := range strings.Fields(script) {
		x.call(call, 0, api.OK)
	}
}

// try makes calls one after the other, whatever comes of them.
func (x *pair) try(script string) {
	x.t.Helper()
	for _, call := range strings.Fields(script) {
		x.attempt(call)
	}
}

// spend makes a call, which is to have no trouble, and wants it to take so many operations.
func (x *pair) spend(call string, reads, writes, flushes int) {
	x.t.Helper()
	x.spendTrouble(call, 0, api.OK, reads, writes, flushes)
}

func (x *pair) spendTrouble(call string, slot int, e api.Errno, reads, writes, flushes int) {
	x.t.Helper()
	before := x.b.Counts()
	x.call(call, slot, e)
	now, want := x.b.Counts(), api.Counts{Reads: reads, Writes: writes, Flushes: flushes}
	if got := (api.Counts{Reads: now.Reads - before.Reads, Writes: now.Writes - before.Writes, Flushes: now.Flushes - before.Flushes}); got != want {
		x.t.Fatalf("%s: %v operations; want %v", call, got, want)
	}
}

// wantState wants the Rows to tell this of itself.
func (x *pair) wantState(sealed bool, pending int) {
	x.t.Helper()
	if x.r.Sealed() != sealed || x.r.Pending() != pending {
		x.t.Fatalf("sealed %v, pending %d; want %v, %d", x.r.Sealed(), x.r.Pending(), sealed, pending)
	}
}

// wantJournal wants the journal to tell this of itself.
func (x *pair) wantJournal(used int, next uint64, sure bool) {
	x.t.Helper()
	if want := (face{x.ring, used, next, sure}); faceOf(x.w) != want {
		x.t.Fatalf("size, used, next and sure: %v; want %v", faceOf(x.w), want)
	}
}

func (x *pair) trip(n int) { x.b.Trip(n); x.p.b.Trip(n) }

func (x *pair) wear(slot, n int) { x.b.Wear(slot, n); x.p.b.Wear(slot, n) }

func (x *pair) fail(slot int) { x.b.Fail(slot); x.p.b.Fail(slot) }

func (x *pair) pull(slot int) { x.b.Pull(slot); x.p.b.Pull(slot) }

func (x *pair) cut(keeps ...[]bool) {
	x.t.Helper()
	x.b.Cut(keeps...)
	x.p.b.Cut(keeps...)
	x.compare("Cut")
}

// lay writes a sector past the Rows, and makes it durable.
func (x *pair) lay(slot, at int, data []byte) {
	for _, b := range []*bay.Bay{x.b, x.p.b} {
		b.Write(slot, at, data)
		b.Flush(slot)
	}
}
