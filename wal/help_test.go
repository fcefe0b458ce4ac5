package wal_test

import (
	"bytes"
	"encoding/binary"
	"hash/crc32"
	"math"
	"math/rand"
	"slices"
	"strconv"
	"strings"
	"testing"

	"spindle/api"
	"spindle/bay"
	"spindle/scan"
	"spindle/wal"
)

const greatest uint64 = 1 << 62 // of epochs and of numbers

// noRings are sizes that no ring has, some of which would be one if fewer bits of them counted.
func noRings() []int {
	return []int{
		4, 3, 1, 0, -1, -5, -2048, 2049, 2050, 4096, 1<<16 + 5, 1<<32 + 10, -1<<32 + 10,
		math.MaxInt, math.MaxInt - 1, math.MinInt, math.MinInt + 5,
	}
}

// full is a sector of one byte.
func full(c byte) []byte { return bytes.Repeat([]byte{c}, 128) }

// checkpoint is laid byte by byte, whether it is valid or not.
func checkpoint(epoch, seq uint64, tail int) []byte {
	b := make([]byte, 128)
	copy(b, "SPJL\x03")
	binary.LittleEndian.PutUint64(b[8:], epoch)
	binary.LittleEndian.PutUint64(b[16:], seq)
	binary.LittleEndian.PutUint32(b[24:], uint32(tail))
	return summed(b)
}

// summed is b with the right checksum.
func summed(b []byte) []byte {
	b = slices.Clone(b)
	binary.LittleEndian.PutUint32(b[124:], crc32.Checksum(b[:124], crc32.MakeTable(crc32.Castagnoli)))
	return b
}

// batch is one of n patches; it is another one for each serial number.
func batch(serial, n int) []api.Patch {
	r := rand.New(rand.NewSource(int64(serial)))
	l := []api.Patch{}
	for range n {
		data := make([]byte, 128)
		r.Read(data)
		binary.LittleEndian.PutUint32(data[120:], uint32(serial))
		switch r.Intn(5) {
		case 0:
			copy(data, "SPJL")
		case 1:
			copy(data, "SPJL\x02\x00\x00\x00")
		case 2:
			clear(data[:4])
		}
		l = append(l, api.Patch{Member: r.Intn(16), Row: r.Intn(4096), Data: data})
	}
	return l
}

func samePatches(a, b []api.Patch) bool {
	return slices.EqualFunc(a, b, func(p, q api.Patch) bool {
		return p.Member == q.Member && p.Row == q.Row && bytes.Equal(p.Data, q.Data)
	})
}

func sameTxns(a, b []api.Txn) bool {
	return slices.EqualFunc(a, b, func(p, q api.Txn) bool { return p.Seq == q.Seq && samePatches(p.Patches, q.Patches) })
}

// told are batches in short.
func told(l []api.Txn) string {
	s := strconv.Itoa(len(l)) + " batches"
	for _, t := range l {
		s += " " + strconv.FormatUint(t.Seq, 10) + ":" + strconv.Itoa(len(t.Patches))
	}
	return s
}

// face is what a journal tells of itself.
type face struct {
	size, used int
	next       uint64
	sure       bool
}

func faceOf(w *wal.Wal) face { return face{w.Size(), w.Used(), w.Next(), w.Sure()} }

// pair is a bay with a journal, and a plain one of both: whatever is done is done with the two of them, and is to look alike.
type pair struct {
	t      *testing.T
	slot   int
	size   int
	b      *bay.Bay
	w      *wal.Wal
	p      *plainBay
	v      *plainWal
	serial int         // of the last batch
	last   []api.Patch // which is this one
}

// bays are a bay with disks of these sizes, without a journal.
func bays(t *testing.T, slot, size int, sizes ...int) *pair {
	t.Helper()
	b, e := bay.New(sizes...)
	if e != api.OK {
		t.Fatalf("bay.New(%v): %v", sizes, e)
	}
	x := &pair{t: t, slot: slot, size: size, b: b, p: &plainBay{trip: -1}}
	for _, n := range sizes {
		var d *plainDisk
		if n > 0 {
			d = plainNew(n)
		}
		x.p.disks = append(x.p.disks, d)
	}
	return x
}

// formatted is a journal in the middle one of three slots.
func formatted(t *testing.T, size int, epoch uint64) *pair {
	t.Helper()
	x := bays(t, 1, size, size+3, size+3, size+3)
	x.format(epoch, api.OK)
	if x.w == nil {
		t.FailNow()
	}
	return x
}

// compare wants all that can be seen without an operation to be alike.
func (x *pair) compare(what string) {
	t := x.t
	t.Helper()
	if x.b.Counts() != x.p.counts || x.b.Dark() != x.p.dark {
		t.Fatalf("%s: %v operations, dark %v; want %v, %v", what, x.b.Counts(), x.b.Dark(), x.p.counts, x.p.dark)
	}
	for slot, d := range x.p.disks {
		if d == nil {
			continue
		}
		if l := x.b.Pending(slot); !slices.Equal(l, d.ats) {
			t.Fatalf("%s: slot %d: writes of the sectors %v; want %v", what, slot, l, d.ats)
		}
		image, _ := x.b.Image(slot)
		want := strings.Join(d.durable, "")
		if !d.failed && string(image) != want {
			t.Fatalf("%s: slot %d: sector %d is another one", what, slot, firstUnlike(string(image), want)/128)
		}
	}
	if (x.w == nil) != (x.v == nil) {
		t.Fatalf("%s: journal %v; want %v", what, x.w, x.v)
	}
	if x.w != nil {
		if want := (face{x.v.size, x.v.used, x.v.next, x.v.sure}); faceOf(x.w) != want {
			t.Fatalf("%s: size, used, next and sure: %v; want %v", what, faceOf(x.w), want)
		}
	}
}

func firstUnlike(a, b string) int {
	for i := range min(len(a), len(b)) {
		if a[i] != b[i] {
			return i
		}
	}
	return min(len(a), len(b))
}

// same wants both to have answered this error; it compares everything, too.
func (x *pair) same(what string, got, plain, want api.Errno) {
	x.t.Helper()
	if got != plain || got != want {
		x.t.Fatalf("%s: %v, the plain one %v; want %v", what, got, plain, want)
	}
	x.compare(what)
}

func (x *pair) format(epoch uint64, want api.Errno) {
	x.t.Helper()
	w, e := wal.Format(x.b, x.slot, x.size, epoch)
	v, f := plainFormat(x.p, x.slot, x.size, epoch)
	x.w, x.v = w, v
	x.same("Format", e, f, want)
}

// open opens the journal anew; it answers what was found.
func (x *pair) open(want api.Errno) []api.Txn {
	x.t.Helper()
	w, l, e := wal.Open(x.b, x.slot, x.size)
	v, m, f := plainOpen(x.p, x.slot, x.size)
	x.w, x.v = w, v
	x.same("Open", e, f, want)
	if !sameTxns(l, m) || e != api.OK && len(l) > 0 {
		x.t.Fatalf("Open: %s; want %s", told(l), told(m))
	}
	return l
}

// cut takes the power away; of the journal's slot these writes are kept.
func (x *pair) cut(keep ...bool) {
	x.t.Helper()
	keeps := make([][]bool, len(x.p.disks))
	if x.slot >= 0 && x.slot < len(keeps) {
		keeps[x.slot] = keep
	}
	x.b.Cut(keeps...)
	x.p.cut(x.slot, keep)
	x.compare("Cut")
}

func (x *pair) trip(n int) {
	x.b.Trip(n)
	x.p.trip = n
}

func (x *pair) wear(n int) {
	x.b.Wear(x.slot, n)
	x.p.disks[x.slot].worn = n
}

func (x *pair) fail() {
	x.b.Fail(x.slot)
	x.p.disks[x.slot].fail()
}

func (x *pair) pull() {
	x.b.Pull(x.slot)
	x.p.disks[x.slot] = nil
}

// put lays a disk with these sectors in instead of one that has failed, or where none is.
func (x *pair) put(sectors ...string) {
	x.t.Helper()
	if x.b.Has(x.slot) {
		x.fail()
	}
	if e := x.b.Load(x.slot, []byte(strings.Join(sectors, ""))); e != api.OK {
		x.t.Fatalf("bay.Load: %v", e)
	}
	x.p.disks[x.slot] = &plainDisk{durable: slices.Clone(sectors), worn: -1}
}

// durable are the sectors of the journal's disk.
func (x *pair) durable() []string { return slices.Clone(x.p.disks[x.slot].durable) }

// log logs a batch that was not there before.
func (x *pair) log(n int, want api.Errno) []api.Patch {
	x.t.Helper()
	x.call("log"+strconv.Itoa(n), want)
	return x.last
}

func (x *pair) logThese(l []api.Patch, want api.Errno) {
	x.t.Helper()
	e, f := x.w.Log(l), x.v.log(l)
	x.same("Log of "+strconv.Itoa(len(l)), e, f, want)
}

func (x *pair) seal(want api.Errno) {
	x.t.Helper()
	x.call("seal", want)
}

func (x *pair) sync(want api.Errno) {
	x.t.Helper()
	x.call("sync", want)
}

func (x *pair) reclaim(want api.Errno) {
	x.t.Helper()
	x.call("reclaim", want)
}

func (x *pair) renew(want api.Errno) {
	x.t.Helper()
	x.call("renew", want)
}

// attempt makes a call by its name: log and a number of patches, seal, sync, reclaim or renew. It answers the error of both.
func (x *pair) attempt(name string) api.Errno {
	x.t.Helper()
	var e, plain api.Errno
	switch name {
	case "seal":
		e, plain = x.w.Seal(), x.v.seal()
	case "sync":
		e, plain = x.w.Sync(), x.v.sync()
	case "reclaim":
		e, plain = x.w.Reclaim(), x.v.reclaim(x.v.epoch)
	case "renew":
		e, plain = x.w.Renew(), x.v.reclaim(x.v.epoch+1)
	default:
		n, err := strconv.Atoi(strings.TrimPrefix(name, "log"))
		if err != nil {
			x.t.Fatal(err)
		}
		x.serial++
		x.last = batch(x.serial, n)
		e, plain = x.w.Log(x.last), x.v.log(x.last)
	}
	x.same(name, e, plain, plain)
	return e
}

// call makes a call by its name, and wants this error.
func (x *pair) call(name string, want api.Errno) {
	x.t.Helper()
	if e := x.attempt(name); e != want {
		x.t.Fatalf("%s: %v; want %v", name, e, want)
	}
}

// run makes calls one after the other, none of which is refused.
func (x *pair) run(script string) {
	x.t.Helper()
	for _, name := range strings.Fields(script) {
		x.call(name, api.OK)
	}
}

// wantFace wants the journal to tell this of itself.
func (x *pair) wantFace(used int, next uint64, sure bool) {
	x.t.Helper()
	if want := (face{x.size, used, next, sure}); faceOf(x.w) != want {
		x.t.Fatalf("size, used, next and sure: %v; want %v", faceOf(x.w), want)
	}
}

// spent is how many operations there were since before.
func (x *pair) spent(before api.Counts) api.Counts {
	now := x.b.Counts()
	return api.Counts{Reads: now.Reads - before.Reads, Writes: now.Writes - before.Writes, Flushes: now.Flushes - before.Flushes}
}

// wantSpent wants a call to perform so many operations.
func (x *pair) wantSpent(what string, reads, writes, flushes int, call func()) {
	x.t.Helper()
	before := x.b.Counts()
	call()
	if got, want := x.spent(before), (api.Counts{Reads: reads, Writes: writes, Flushes: flushes}); got != want {
		x.t.Fatalf("%s: %v operations; want %v", what, got, want)
	}
}

// lay lays a complete batch of this epoch and number to the head, among the sectors of a disk.
func (x *pair) lay(l []string, epoch, seq uint64) {
	sectors, _ := scan.Sectors(epoch, api.Txn{Seq: seq, Patches: batch(1000, 2)})
	for i, at := range behind(x.size, (x.v.tail+x.v.used)%x.size, len(sectors)) {
		l[at] = string(sectors[i])
	}
}
