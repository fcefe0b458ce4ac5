package wal_test

import (
	"math/rand"
	"slices"
	"strings"
	"testing"

	"spindle/api"
	"spindle/bay"
	"spindle/record"
	"spindle/scan"
	"spindle/wal"
)

// wantNoOpen wants Open to be refused without an operation, and with nothing beside the error.
func wantNoOpen(t *testing.T, b *bay.Bay, slot, ring int) {
	t.Helper()
	before := b.Counts()
	if w, l, e := wal.Open(b, slot, ring); w != nil || len(l) > 0 || e != api.ErrArg {
		t.Errorf("Open of slot %d, ring %d: %v, %s, %v; want nil, none, %v", slot, ring, w, told(l), e, api.ErrArg)
	}
	if b.Counts() != before {
		t.Errorf("Open of slot %d, ring %d: %v operations", slot, ring, b.Counts())
	}
}

// A ring that is none is told ahead of all that an operation would tell, and uses up neither a trip nor wear.
func TestOpenRefusesRings(t *testing.T) {
	b, _ := bay.New(12, 0, 8192)
	wal.Format(b, 0, 10, 1)
	wal.Format(b, 2, 10, 1)
	all := func() {
		t.Helper()
		for _, size := range noRings() {
			for _, slot := range []int{-1, 0, 1, 2, 3} {
				wantNoOpen(t, b, slot, size)
			}
		}
	}
	all()
	b.Trip(0)
	b.Wear(0, 0)
	all()
	if b.Dark() || !b.Has(0) {
		t.Errorf("dark %v, has %v", b.Dark(), b.Has(0))
	}
	b.Fail(0)
	all()
	b.Read(0, 0)
	if !b.Dark() {
		t.Fatal("not dark")
	}
	all()
}

func TestOpenOfEachRing(t *testing.T) {
	for _, size := range []int{5, 6, 7, 10, 255, 256, 257, 2047, 2048} {
		x := bays(t, 0, size, size+2)
		x.format(1, api.OK)
		l := x.log(min(1023, (size-1)/2), api.OK)
		x.run("seal sync")
		x.cut()
		x.wantSpent("Open", size+1, 0, 0, func() {
			if found := x.open(api.OK); !sameTxns(found, []api.Txn{{Seq: 1, Patches: l}}) {
				t.Errorf("ring %d: %s", size, told(found))
			}
		})
		x.wantFace(2*len(l)+1, 2, true)
	}
}

// wantForm wants what is on the disk to be no journal, which just one read tells.
func (x *pair) wantForm() {
	x.t.Helper()
	before := x.durable()
	x.wantSpent("Open", 1, 0, 0, func() { x.open(api.ErrWalForm) })
	if !slices.Equal(x.durable(), before) {
		x.t.Error("Open has written")
	}
}

func TestOpenOfAnyBytes(t *testing.T) {
	x := bays(t, 0, 10, 12)
	x.wantForm()
	x.put(slices.Repeat([]string{string(full(255))}, 12)...)
	x.wantForm()
	r := rand.New(rand.NewSource(1))
	for range 100 {
		l := []string{}
		for range 12 {
			b := make([]byte, 128)
			r.Read(b)
			copy(b, "SPJL\x03\x00\x00\x00"[:r.Intn(9)])
			l = append(l, string(b))
		}
		x.put(l...)
		x.wantForm()
	}
}

// wantChecked lays a sector in where the checkpoint stands, and opens that.
func (x *pair) wantChecked(sector []byte, want api.Errno) {
	x.t.Helper()
	l := x.durable()
	l[1] = string(sector)
	x.put(l...)
	if want == api.ErrWalForm {
		x.wantForm()
	} else {
		x.open(want)
	}
}

func TestOpenOfCheckpointsThatAreNotValid(t *testing.T) {
	x := formatted(t, 10, 3)
	x.run("log2 seal sync reclaim log1 seal sync")
	good := []byte(x.durable()[1])
	for bit := range 128 * 8 {
		b := slices.Clone(good)
		b[bit/8] ^= 1 << (bit % 8)
		x.wantChecked(b, api.ErrWalForm)
	}
	for at := range 124 { // with the right checksum: in the reserved bytes, the kind and the magic number
		if at >= 8 && at < 28 {
			continue
		}
		b := slices.Clone(good)
		b[at] ^= 1
		x.wantChecked(summed(b), api.ErrWalForm)
	}
	for _, epoch := range []uint64{greatest + 1, 1 << 63, 1<<64 - 1} {
		x.wantChecked(checkpoint(epoch, 2, 5), api.ErrWalForm)
	}
	for _, seq := range []uint64{0, greatest + 1, 1 << 63, 1<<64 - 1} {
		x.wantChecked(checkpoint(3, seq, 5), api.ErrWalForm)
	}
	header, _ := record.EncodeHeader(api.Header{Epoch: 3, Seq: 2, Count: 1})
	commit, _ := record.EncodeCommit(api.Commit{Epoch: 3, Seq: 2, Count: 1})
	for _, b := range [][]byte{header, commit, full(0), full(3), []byte(x.durable()[2]), []byte(x.durable()[6])} {
		x.wantChecked(b, api.ErrWalForm)
	}
	x.wantChecked(good, api.OK)
	x.wantFace(3, 3, true)
}

func TestOpenOfTails(t *testing.T) {
	for _, size := range []int{5, 6, 10, 300} {
		x := formatted(t, size, 3)
		for _, tail := range []int{0, 1, size - 2, size - 1} {
			x.wantChecked(checkpoint(3, 7, tail), api.OK)
			x.wantFace(0, 7, true)
			x.run("log1 seal sync")
			x.cut()
			if l := x.open(api.OK); len(l) != 1 || l[0].Seq != 7 {
				t.Errorf("ring %d, tail %d: %s", size, tail, told(l))
			}
		}
		for _, tail := range []int{size, size + 1, 2 * size, 2046, 2047, 2048, 1 << 16, 1<<16 + 1, 1 << 31, 1<<32 - 1} {
			x.wantChecked(checkpoint(3, 7, tail), api.ErrWalForm)
		}
	}
	x := formatted(t, 2048, 3)
	x.wantChecked(checkpoint(3, 7, 2047), api.OK)
	x.wantChecked(checkpoint(3, 7, 2048), api.ErrWalForm)
}

// As many places are read as there are, in their order, on a disk that is too small; but that its checkpoint is none is told first.
func TestOpenOfSmallDisks(t *testing.T) {
	for _, size := range []int{5, 10, 2048} {
		for _, there := range []int{0, 1, 2, size - 2, size - 1} {
			x := bays(t, 0, size, 2+there)
			x.wantForm()
			x.wantChecked(checkpoint(1, 1, size), api.ErrWalForm)
			x.wantSpent("Open", there+2, 0, 0, func() { x.wantChecked(checkpoint(1, 1, size-1), api.ErrRange) })
		}
		x := bays(t, 0, size, 1)
		x.wantSpent("Open", 1, 0, 0, func() { x.open(api.ErrRange) })
	}
}

// The operation that fails, whichever it is, is the last one; nothing but its error comes out.
func TestOpenThatFails(t *testing.T) {
	for n := range 12 {
		x := formatted(t, 10, 1)
		x.run("log1 seal log2 seal sync")
		reads := x.b.Counts().Reads
		want := api.ErrBayDark
		if n == 11 {
			want = api.OK
		}
		x.trip(n)
		x.open(want)
		if got := x.b.Counts().Reads - reads; got != n {
			t.Errorf("%d reads ahead of the cut; want %d", got, n)
		}
		x.cut()
		if n < 11 {
			want = api.ErrFailed
		}
		x.wear(n)
		reads = x.b.Counts().Reads
		x.open(want)
		if got := x.b.Counts().Reads - reads; got != min(n+1, 11) {
			t.Errorf("%d reads of a disk that is worn out behind %d", got, n)
		}
	}
	x := formatted(t, 10, 1)
	x.fail()
	x.wantSpent("Open", 1, 0, 0, func() { x.open(api.ErrFailed) })
	x.pull()
	x.wantSpent("Open", 1, 0, 0, func() { x.open(api.ErrBayEmpty) })
}

// Opening finds the same however often, and writes nothing.
func TestOpenTwice(t *testing.T) {
	for _, script := range []string{"", "log1", "log1 seal", "log2 seal log1 seal", "log1 seal sync reclaim log1 seal log2 seal", "log1 seal sync renew log1 seal log1", "log2 seal log2 seal sync", "log1 seal log3"} {
		x := formatted(t, 10, 5)
		x.run(script)
		x.cut(true, false, true)
		first := x.open(api.OK)
		face, before := faceOf(x.w), x.durable()
		for range 4 {
			x.wantSpent("Open", 11, 0, 0, func() {
				if l := x.open(api.OK); !sameTxns(l, first) || faceOf(x.w) != face {
					t.Errorf("%s: %s, %v; want %s, %v", script, told(l), faceOf(x.w), told(first), face)
				}
			})
			if len(x.b.Pending(1)) > 0 || !slices.Equal(x.durable(), before) {
				t.Errorf("%s: Open has written", script)
			}
		}
	}
}

// What is in the disk's cache is read as what is durable is, and the journal takes it for sure.
func TestOpenWithoutACut(t *testing.T) {
	x := formatted(t, 10, 5)
	x.run("log2 seal log1 seal")
	if l := x.open(api.OK); len(l) != 2 {
		t.Errorf("%s", told(l))
	}
	x.wantFace(8, 3, true)
	x.wantSpent("Sync", 0, 0, 0, func() { x.sync(api.OK) })
	x.run("reclaim")
	x.wantFace(0, 3, true)
}

// A journal that is opened goes on as the one that was there would have.
func TestOpenGoesOn(t *testing.T) {
	for _, script := range []string{"", "log1 seal sync", "log2 seal sync reclaim", "log1 seal log2 seal sync", "log1 seal sync renew log2 seal sync", "log2 seal sync reclaim log2 seal sync reclaim log1 seal sync"} {
		x := formatted(t, 10, 5)
		x.run(script)
		want := faceOf(x.w)
		x.open(api.OK)
		if faceOf(x.w) != want {
			t.Errorf("%s: %v; want %v", script, faceOf(x.w), want)
		}
		x.seal(api.ErrArg)
		if x.w.Used() <= 7 {
			x.run("log1 seal sync")
		}
		x.run("reclaim log4 seal sync renew log2 seal sync reclaim log3 seal")
		if l := x.open(api.OK); len(l) != 1 || !samePatches(l[0].Patches, batch(x.serial, 3)) {
			t.Errorf("%s: %s", script, told(l))
		}
	}
}

// What was logged and not sealed is not known to the journal that is opened then.
func TestOpenKnowsNoLoggedBatch(t *testing.T) {
	x := formatted(t, 10, 5)
	x.run("log1 seal log2")
	if l := x.open(api.OK); len(l) != 1 {
		t.Errorf("%s", told(l))
	}
	x.wantSpent("Seal", 0, 0, 0, func() { x.seal(api.ErrArg) })
	x.wantFace(3, 2, true)
}

// With another ring than the one that was formatted, there is what stands in that one.
func TestOpenWithAnotherRing(t *testing.T) {
	for _, other := range []int{5, 6, 8, 9, 11, 12, 13} {
		x := bays(t, 0, 10, 15)
		x.format(5, api.OK)
		x.run("log1 seal log2 seal sync reclaim log1 seal sync") // tail 8: it goes over the end of a ring of 10
		x.size = other
		want := api.OK
		if other <= 8 {
			want = api.ErrWalForm
		}
		if l := x.open(want); len(l) > 0 {
			t.Errorf("ring %d: %s", other, told(l))
		}
		x = bays(t, 0, 10, 15)
		x.format(5, api.OK)
		x.run("log1 seal log2 seal sync") // 3 and 5 places, from the beginning
		x.size = other
		found := 2
		if other < 8 {
			found = 1
		}
		if l := x.open(api.OK); len(l) != found || x.w.Size() != other {
			t.Errorf("ring %d: %s", other, told(l))
		}
		x.run("reclaim log2 seal sync")
		x.cut()
		if l := x.open(api.OK); len(l) != 1 {
			t.Errorf("ring %d: %s", other, told(l))
		}
	}
}

// Whatever the places contain, what a scan finds in them is what comes out.
func TestOpenOfAnyPlaces(t *testing.T) {
	r := rand.New(rand.NewSource(2))
	x := formatted(t, 12, 5)
	counts := map[int]int{}
	for range 400 {
		l := x.durable()
		tail := r.Intn(12)
		l[1] = string(checkpoint(5, 3, tail))
		at := tail
		for seq := uint64(3); seq < 6; seq++ {
			sectors, _ := scan.Sectors(5, api.Txn{Seq: seq, Patches: batch(r.Intn(1000), 1+r.Intn(2))})
			for _, b := range sectors {
				l[2+at%12] = string(b)
				at++
			}
		}
		for range r.Intn(2) {
			l[2+r.Intn(12)] = string(full(1))
		}
		x.put(l...)
		found := x.open(api.OK)
		counts[len(found)]++
		f, _ := scan.Of([]byte(strings.Join(l[2:14], "")), api.Check{Epoch: 5, Seq: 3, Tail: tail})
		if !sameTxns(found, f.Txns) {
			t.Errorf("%s; want %s", told(found), told(f.Txns))
		}
		x.wantFace(f.Used, f.Next, true)
	}
	for n := range 4 {
		if counts[n] == 0 {
			t.Errorf("%d batches were never found: %v", n, counts)
		}
	}
}
