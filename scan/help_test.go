package scan_test

import (
	"encoding/binary"
	"fmt"
	"hash/crc32"
	"math/rand"
	"slices"
	"strings"
	"testing"

	"spindle/api"
	"spindle/scan"
)

const greatest uint64 = 1 << 62 // of epochs and of numbers

// The ints and the words at which they end, and where fewer bits of them would be a number that is valid.
var (
	wildInts  = []int{-1 << 63, -1<<63 + 1, -1<<32 + 1, -1 << 31, -65535, -128, -2, 1<<16 + 1, 1 << 31, 1<<32 - 1, 1 << 32, 1<<32 + 1, 1<<63 - 1}
	wildWords = []uint64{1<<62 + 1, 1<<62 + 2, 1<<63 - 1, 1 << 63, 1<<63 + 1, 1<<64 - 1}
)

func sumOf(b ...[]byte) uint32 {
	return crc32.Checksum(slices.Concat(b...), crc32.MakeTable(crc32.Castagnoli))
}

// laid lays the fields of a header, a commit or a checkpoint byte by byte, as chapter 8 says, whether they are valid or not.
func laid(v any) []byte {
	b := make([]byte, 128)
	copy(b, "SPJL")
	word := func(at int, n uint64) { binary.LittleEndian.PutUint64(b[at:], n) }
	numbers := func(l ...int) {
		for i, n := range l {
			binary.LittleEndian.PutUint32(b[24+4*i:], uint32(n))
		}
	}
	switch v := v.(type) {
	case api.Header:
		flag := 0
		if v.Escaped {
			flag = 1
		}
		b[4] = 1
		word(8, v.Epoch)
		word(16, v.Seq)
		numbers(v.Index, v.Count, v.Member, v.Row, flag, int(v.Sum))
	case api.Commit:
		b[4] = 2
		word(8, v.Epoch)
		word(16, v.Seq)
		numbers(v.Count, int(v.Sum))
	case api.Check:
		b[4] = 3
		word(8, v.Epoch)
		word(16, v.Seq)
		numbers(v.Tail)
	}
	return summed(b)
}

// summed is b with the right checksum.
func summed(b []byte) []byte {
	b = slices.Clone(b)
	binary.LittleEndian.PutUint32(b[124:], sumOf(b[:124]))
	return b
}

// draft is a batch as it is to stand in the ring, every part of which a test may change ahead of laying it.
type draft struct {
	headers []api.Header
	logged  [][]byte
	commit  api.Commit
}

// drafted is the draft of a batch, as the chapter says.
func drafted(epoch uint64, t api.Txn) *draft {
	d := &draft{commit: api.Commit{Epoch: epoch, Seq: t.Seq, Count: len(t.Patches)}}
	for i, p := range t.Patches {
		logged := slices.Clone(p.Data)
		escaped := strings.HasPrefix(string(p.Data), "SPJL")
		if escaped {
			clear(logged[:4])
		}
		d.logged = append(d.logged, logged)
		d.headers = append(d.headers, api.Header{
			Epoch: epoch, Seq: t.Seq, Index: i, Count: len(t.Patches), Member: p.Member, Row: p.Row, Escaped: escaped, Sum: sumOf(logged),
		})
	}
	d.seal()
	return d
}

// seal makes the commit's Sum right for what the headers are now.
func (d *draft) seal() {
	var l [][]byte
	for _, h := range d.headers {
		l = append(l, laid(h))
	}
	d.commit.Sum = sumOf(l...)
}

// log makes one sector another one, and the Sum of its header right.
func (d *draft) log(i int, logged []byte, escaped bool) {
	d.logged[i] = logged
	d.headers[i].Sum = sumOf(logged)
	d.headers[i].Escaped = escaped
	d.seal()
}

func (d *draft) sectors() [][]byte {
	var l [][]byte
	for i, h := range d.headers {
		l = append(l, laid(h), slices.Clone(d.logged[i]))
	}
	return append(l, laid(d.commit))
}

// filled is a sector that is full of one byte.
func filled(c byte) []byte { return slices.Repeat([]byte{c}, 128) }

// marked is a sector that begins with a text.
func marked(text string, c byte) []byte {
	b := filled(c)
	copy(b, text)
	return b
}

func patch(member, row int, data []byte) api.Patch {
	return api.Patch{Member: member, Row: row, Data: data}
}

// data is a sector at random, of any of the kinds that matter here.
func data(r *rand.Rand) []byte {
	b := make([]byte, 128)
	r.Read(b)
	switch r.Intn(6) {
	case 0:
		copy(b, "SPJL")
	case 1:
		copy(b, "SPJL\x01\x00\x00\x00")
	case 2:
		clear(b[:4])
	case 3:
		clear(b)
	case 4:
		copy(b, "SPJ")
	}
	return b
}

// batch is a batch of n patches, with a number, the same at each call.
func batch(seq uint64, n int) api.Txn {
	r := rand.New(rand.NewSource(int64(seq%1000)*2000 + int64(n)))
	t := api.Txn{Seq: seq}
	for range n {
		t.Patches = append(t.Patches, patch(r.Intn(16), r.Intn(4096), data(r)))
	}
	return t
}

// batches are several, one of each of these lengths, with numbers from one on.
func batches(seq uint64, lengths ...int) []api.Txn {
	var l []api.Txn
	for i, n := range lengths {
		l = append(l, batch(seq+uint64(i), n))
	}
	return l
}

// lay writes sectors into a ring from a place on.
func lay(ring []byte, at int, sectors ...[]byte) {
	for i, b := range sectors {
		copy(ring[(at+i)%(len(ring)/128)*128:], b)
	}
}

// noise is a ring of so many places, at random.
func noise(places int) []byte {
	b := make([]byte, places*128)
	rand.New(rand.NewSource(int64(places))).Read(b)
	return b
}

// history is a ring in which batches stand from the checkpoint on.
type history struct {
	ring  []byte
	check api.Check
	txns  []api.Txn
}

// storied lays batches of these lengths into a ring of noise.
func storied(places int, c api.Check, lengths ...int) history {
	h := history{noise(places), c, batches(c.Seq, lengths...)}
	at := c.Tail
	for _, t := range h.txns {
		sectors := drafted(c.Epoch, t).sectors()
		lay(h.ring, at, sectors...)
		at += len(sectors)
	}
	return h
}

// used is how many sectors the first n batches have.
func (h history) used(n int) int {
	used := 0
	for _, t := range h.txns[:n] {
		used += 2*len(t.Patches) + 1
	}
	return used
}

// found is what a scan finds, if it finds the first n batches.
func (h history) found(n int) api.Found {
	used := h.used(n)
	return api.Found{Txns: h.txns[:n], Next: h.check.Seq + uint64(n), Head: (h.check.Tail + used) % (len(h.ring) / 128), Used: used}
}

// wantFirst wants just the first n batches to be found.
func (h history) wantFirst(t *testing.T, n int) {
	t.Helper()
	wantFound(t, h.ring, h.check, h.found(n))
}

// with is the same with another sector, the i-th one from the tail on.
func (h history) with(i int, sector []byte) history {
	h.ring = slices.Clone(h.ring)
	lay(h.ring, h.check.Tail+i, sector)
	return h
}

// sector is the i-th one from the tail on.
func (h history) sector(i int) []byte {
	at := (h.check.Tail + i) % (len(h.ring) / 128) * 128
	return slices.Clone(h.ring[at : at+128])
}

func sameTxn(a, b api.Txn) bool {
	return a.Seq == b.Seq && slices.EqualFunc(a.Patches, b.Patches, func(p, q api.Patch) bool {
		return p.Member == q.Member && p.Row == q.Row && slices.Equal(p.Data, q.Data)
	})
}

func sameFound(a, b api.Found) bool {
	return a.Next == b.Next && a.Head == b.Head && a.Used == b.Used && slices.EqualFunc(a.Txns, b.Txns, sameTxn)
}

// told is what a scan found, in short: of each batch its number, its length, and a sum over all of it.
func told(f api.Found) string {
	s := fmt.Sprintf("Next %d, Head %d, Used %d, %d batches", f.Next, f.Head, f.Used, len(f.Txns))
	for _, t := range f.Txns[:min(len(f.Txns), 8)] {
		s += fmt.Sprintf(" %d:%d:%x", t.Seq, len(t.Patches), sumOf([]byte(fmt.Sprint(t.Patches))))
	}
	return s
}

func wantFound(t *testing.T, ring []byte, c api.Check, want api.Found) {
	t.Helper()
	if f, e := scan.Of(ring, c); e != api.OK || !sameFound(f, want) {
		t.Errorf("Of of %d bytes, %+v: %s, %v; want %s", len(ring), c, told(f), e, told(want))
	}
}

// wantNone wants no batch to be found.
func wantNone(t *testing.T, ring []byte, c api.Check) {
	t.Helper()
	wantFound(t, ring, c, api.Found{Next: c.Seq, Head: c.Tail})
}

func wantNoScan(t *testing.T, ring []byte, c api.Check) {
	t.Helper()
	if f, e := scan.Of(ring, c); e != api.ErrArg || len(f.Txns) != 0 || f.Next != 0 || f.Head != 0 || f.Used != 0 {
		t.Errorf("Of of %d bytes, %+v: %s, %v; want nothing, %v", len(ring), c, told(f), e, api.ErrArg)
	}
}

func wantSectors(t *testing.T, epoch uint64, x api.Txn) [][]byte {
	t.Helper()
	l, e := scan.Sectors(epoch, x)
	want := drafted(epoch, x).sectors()
	if e != api.OK || !slices.EqualFunc(l, want, slices.Equal) {
		t.Errorf("Sectors of epoch %d, number %d, %d patches: %d sectors, %v; want %d", epoch, x.Seq, len(x.Patches), len(l), e, len(want))
		for i := range min(len(l), len(want)) {
			if !slices.Equal(l[i], want[i]) {
				t.Fatalf("sector %d: % x; want % x", i, l[i], want[i])
			}
		}
	}
	return l
}

func wantNoSectors(t *testing.T, epoch uint64, x api.Txn, want api.Errno) {
	t.Helper()
	if l, e := scan.Sectors(epoch, x); e != want || len(l) != 0 {
		t.Errorf("Sectors of epoch %d, number %d, %d patches: %d sectors, %v; want none, %v", epoch, x.Seq, len(x.Patches), len(l), e, want)
	}
}
