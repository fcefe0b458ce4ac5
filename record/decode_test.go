package record_test

import (
	"encoding/binary"
	"math/rand"
	"slices"
	"testing"

	"spindle/api"
)

func TestDecodeLengths(t *testing.T) {
	for _, v := range extremes() {
		kind := kindOf(v)
		long := append(laid(v), laid(v)...)
		for _, n := range []int{0, 1, 4, 5, 24, 64, 123, 124, 127, 129, 132, 255, 256} {
			for _, kind := range kinds {
				wantRefused(t, kind, long[:n], api.ErrLength)
				wantRefused(t, kind, slices.Clone(long[:n]), api.ErrLength)
				wantRefused(t, kind, make([]byte, n), api.ErrLength)
				wantRefused(t, kind, slices.Repeat([]byte{255}, n), api.ErrLength)
			}
		}
		wantRefused(t, kind, nil, api.ErrLength)
		wantDecoded(t, long[:128], v)
		wantDecoded(t, long[128:], v)
	}
}

func TestDecodeZeros(t *testing.T) {
	for _, kind := range kinds {
		wantRefused(t, kind, make([]byte, 128), api.ErrRecordForm)
		wantRefused(t, kind, summed(make([]byte, 128)), api.ErrRecordForm)
		wantRefused(t, kind, slices.Repeat([]byte{255}, 128), api.ErrRecordForm)
	}
}

// Behind the magic number and the kind there is nothing: Seq is 0, whether the checksum is right or not.
func TestDecodeEmpty(t *testing.T) {
	for _, kind := range kinds {
		b := make([]byte, 128)
		copy(b, "SPJL")
		b[4] = kind
		wantRefused(t, kind, b, api.ErrRecordSum)
		wantRefused(t, kind, summed(b), api.ErrRecordForm)
	}
}

func TestDecodeOtherKinds(t *testing.T) {
	for _, v := range some() {
		for _, kind := range kinds {
			if kind != kindOf(v) {
				b := laid(v)
				wantRefused(t, kind, b, api.ErrRecordForm)
				wantRefused(t, kind, set(b, 124, b[124]^1), api.ErrRecordForm) // the kind comes first
				wantRefused(t, kind, set(b, 4, kind), api.ErrRecordSum)
			}
		}
	}
}

// What another kind's fields are as fields of this one, with this one's kind and a right checksum.
func TestDecodeOtherKindsFields(t *testing.T) {
	for _, kind := range []uint8{commit, check} {
		wantRefused(t, kind, summed(set(laid(sampleHeader()), 4, kind)), api.ErrRecordForm)
	}
	wantRefused(t, check, summed(set(laid(sampleCommit()), 4, check)), api.ErrRecordForm)
	wantRefused(t, header, summed(set(laid(sampleCheck()), 4, header)), api.ErrRecordForm)
	wantRefused(t, header, summed(set(laid(api.Commit{Seq: 2, Count: 3, Sum: 3}), 4, header)), api.ErrRecordForm)
	wantDecoded(t, summed(set(laid(api.Commit{Seq: 2, Count: 3, Sum: 4}), 4, header)), api.Header{Seq: 2, Index: 3, Count: 4})
	wantDecoded(t, summed(set(laid(api.Commit{Seq: 2, Count: 3}), 4, check)), api.Check{Seq: 2, Tail: 3})
	wantDecoded(t, summed(set(laid(api.Check{Seq: 2, Tail: 3}), 4, commit)), api.Commit{Seq: 2, Count: 3})
}

// All other values of each byte, the checksum left as it was.
func TestDecodeChangedByte(t *testing.T) {
	for _, v := range extremes() {
		b := laid(v)
		for at, was := range b {
			want := api.ErrRecordSum
			if at < 5 {
				want = api.ErrRecordForm
			}
			for x := range 256 {
				if byte(x) != was {
					wantRefused(t, kindOf(v), set(b, at, byte(x)), want)
				}
			}
		}
	}
}

// span says that each of the bytes from .. to may have the values least .. most, while the others are as they were.
type span struct{ from, to, least, most int }

// headSpans are about Epoch and Seq, which begin at byte 8 and 16.
func headSpans(epoch, seq uint64) []span {
	l := []span{{8, 14, 0, 255}, {15, 15, 0, 63}, {16, 16, 1, 255}, {17, 22, 0, 255}, {23, 23, 0, 63}}
	if epoch == 1<<62 {
		l[0], l[1] = span{8, 14, 0, 0}, span{15, 15, 0, 64}
	}
	if epoch == 0 {
		l[1] = span{15, 15, 0, 64}
	}
	if seq == 1<<62 {
		l[2], l[3], l[4] = span{16, 16, 0, 0}, span{17, 22, 0, 0}, span{23, 23, 1, 64}
	}
	return l
}

// All values of each byte, the checksum made right.
func TestDecodeChangedByteWithRightSum(t *testing.T) {
	wantSpans(t, sampleHeader(), headSpans(1, 2),
		span{24, 24, 0, 1}, span{28, 28, 1, 255}, span{29, 29, 0, 3}, span{32, 32, 0, 15},
		span{36, 36, 0, 255}, span{37, 37, 0, 15}, span{40, 40, 0, 1}, span{44, 47, 0, 255})
	wantSpans(t, leastHeader(), headSpans(0, 1),
		span{28, 28, 1, 255}, span{29, 29, 0, 3}, span{32, 32, 0, 15},
		span{36, 36, 0, 255}, span{37, 37, 0, 15}, span{40, 40, 0, 1}, span{44, 47, 0, 255})
	wantSpans(t, greatestHeader(), headSpans(1<<62, 1<<62),
		span{24, 24, 0, 254}, span{25, 25, 0, 3}, span{32, 32, 0, 15},
		span{36, 36, 0, 255}, span{37, 37, 0, 15}, span{40, 40, 0, 1}, span{44, 47, 0, 255})
	wantSpans(t, sampleCommit(), headSpans(1, 2), span{24, 24, 1, 255}, span{25, 25, 0, 3}, span{28, 31, 0, 255})
	wantSpans(t, leastCommit(), headSpans(0, 1), span{24, 24, 1, 255}, span{25, 25, 0, 3}, span{28, 31, 0, 255})
	wantSpans(t, greatestCommit(), headSpans(1<<62, 1<<62), span{24, 24, 0, 255}, span{25, 25, 0, 3}, span{28, 31, 0, 255})
	wantSpans(t, sampleCheck(), headSpans(1, 2), span{24, 24, 0, 255}, span{25, 25, 0, 7})
	wantSpans(t, leastCheck(), headSpans(0, 1), span{24, 24, 0, 255}, span{25, 25, 0, 7})
	wantSpans(t, greatestCheck(), headSpans(1<<62, 1<<62), span{24, 24, 0, 255}, span{25, 25, 0, 7})
}

func wantSpans(t *testing.T, v any, head []span, own ...span) {
	t.Helper()
	b := laid(v)
	for at, was := range b[:124] {
		least, most := int(was), int(was)
		for _, s := range append(head, own...) {
			if s.from <= at && at <= s.to {
				least, most = s.least, s.most
			}
		}
		for x := range 256 {
			changed := summed(set(b, at, byte(x)))
			if x < least || x > most {
				wantRefused(t, kindOf(v), changed, api.ErrRecordForm)
				continue
			}
			got, e := decode(kindOf(v), changed)
			if e != api.OK || !slices.Equal(laid(got), changed) || (got == v) != (byte(x) == was) {
				t.Errorf("%+v, with %d at byte %d: %+v, %v", v, x, at, got, e)
			}
		}
	}
}

// wantContentRefused is about a sector whose checksum is right, and whose content is not; with a wrong checksum, that is found first.
func wantContentRefused(t *testing.T, kind uint8, b []byte) {
	t.Helper()
	wantRefused(t, kind, b, api.ErrRecordForm)
	for at := 124; at < 128; at++ {
		wantRefused(t, kind, set(b, at, b[at]^0x10), api.ErrRecordSum)
	}
}

// Any byte that has to be a zero, in any value.
func TestDecodeZerosThatAreNot(t *testing.T) {
	behind := []struct {
		kind  uint8
		zeros []int
		rest  int
	}{{header, []int{5, 6, 7, 41, 42, 43}, 48}, {commit, []int{5, 6, 7}, 32}, {check, []int{5, 6, 7}, 28}}
	for _, v := range some()[:60] {
		for _, c := range behind {
			if c.kind != kindOf(v) {
				continue
			}
			zeros := c.zeros
			for at := c.rest; at < 124; at++ {
				zeros = append(zeros, at)
			}
			for _, at := range zeros {
				for _, x := range []byte{1, 2, 128, 255} {
					wantContentRefused(t, c.kind, summed(set(laid(v), at, x)))
				}
			}
		}
	}
}

func TestDecodeFlag(t *testing.T) {
	for _, h := range []api.Header{sampleHeader(), leastHeader(), greatestHeader()} {
		for x := 2; x < 256; x++ {
			wantContentRefused(t, header, summed(set(laid(h), 40, byte(x))))
		}
		h.Escaped = false
		wantDecoded(t, summed(set(laid(h), 40, 0)), h)
		h.Escaped = true
		wantDecoded(t, summed(set(laid(h), 40, 1)), h)
	}
}

// number32 has that number at that byte, and a right checksum.
func number32(v any, at int, n uint32) []byte {
	b := laid(v)
	binary.LittleEndian.PutUint32(b[at:], n)
	return summed(b)
}

// Encodings, with a right checksum, of numbers that are not valid.
func TestDecodeInvalidNumbers(t *testing.T) {
	wild := []uint32{1 << 16, 1<<16 + 1, 1<<24 + 1, 1<<31 - 1, 1 << 31, 1<<31 + 1, 1<<32 - 2, 1<<32 - 1}
	for _, c := range []struct {
		v       any
		at      int
		numbers []uint32
	}{
		{sampleHeader(), 24, []uint32{2, 3, 1022, 1023, 1024}},
		{leastHeader(), 24, []uint32{1, 2, 1023}},
		{greatestHeader(), 24, []uint32{1023, 1024}},
		{sampleHeader(), 28, []uint32{0, 1024, 1025}},
		{greatestHeader(), 28, []uint32{0, 1, 1022, 1024, 2048}},
		{sampleHeader(), 32, []uint32{16, 17, 255, 256}},
		{sampleHeader(), 36, []uint32{4096, 4097, 8192}},
		{sampleCommit(), 24, []uint32{0, 1024, 1025}},
		{sampleCheck(), 24, []uint32{2048, 2049, 4096}},
	} {
		for _, n := range append(c.numbers, wild...) {
			wantContentRefused(t, kindOf(c.v), number32(c.v, c.at, n))
		}
	}
	for _, v := range extremes() {
		for _, w := range append([]uint64{0}, wildWords...) {
			b := laid(v)
			binary.LittleEndian.PutUint64(b[16:], w)
			wantContentRefused(t, kindOf(v), summed(b))
			if w != 0 {
				b = laid(v)
				binary.LittleEndian.PutUint64(b[8:], w)
				wantContentRefused(t, kindOf(v), summed(b))
			}
		}
	}
}

// Several things wrong at once: the one that the chapter names first is told.
func TestDecodeOrderOfErrors(t *testing.T) {
	for _, v := range extremes() {
		kind, b := kindOf(v), laid(v)
		bad := set(set(set(set(b, 0, 'X'), 60, 9), 16, 0), 124, b[124]^1)
		wantRefused(t, kind, bad[:127], api.ErrLength)
		wantRefused(t, kind, append(bad, 0), api.ErrLength)
		wantRefused(t, kind, bad, api.ErrRecordForm)
		bad[0], bad[4] = 'S', kind%3+1
		wantRefused(t, kind, bad, api.ErrRecordForm)
		wantRefused(t, kind%3+1, bad, api.ErrRecordSum)
		bad[4] = kind
		wantRefused(t, kind, bad, api.ErrRecordSum)
		bad[5] = 1 // behind the kind: it is found behind the checksum
		wantRefused(t, kind, bad, api.ErrRecordSum)
		wantRefused(t, kind, summed(bad), api.ErrRecordForm)
	}
}

// Bytes at random, with the magic number, a kind and a right checksum: an encoding, or refused.
func TestDecodeAnyBytes(t *testing.T) {
	r := rand.New(rand.NewSource(81))
	for range 20000 {
		v := drawn(r)[r.Intn(3)]
		b := laid(v)
		for range r.Intn(3) {
			b[5+r.Intn(43)] = byte(r.Intn(256) >> r.Intn(8))
		}
		if r.Intn(8) == 0 {
			r.Read(b[5:124])
		}
		b = summed(b)
		got, e := decode(kindOf(v), b)
		if e == api.OK {
			wantValid(t, got)
		}
		if e == api.OK && !slices.Equal(laid(got), b) || e != api.OK && (e != api.ErrRecordForm || got != nothing(kindOf(v))) {
			t.Fatalf("decoding % x: %+v, %v", b, got, e)
		}
	}
}

// flip turns a bit; they are counted from the lowest one of byte 0 on.
func flip(b []byte, bit int) { b[bit/8] ^= 1 << (bit % 8) }

// wantBurstRefused turns the first and the last one of some bits, and some in between: it is no sector of any kind.
func wantBurstRefused(t *testing.T, good []byte, first, bits int, between uint32) {
	t.Helper()
	b := slices.Clone(good)
	flip(b, first)
	for i := 1; i < bits-1; i++ {
		if between>>i&1 == 1 {
			flip(b, first+i)
		}
	}
	if bits > 1 {
		flip(b, first+bits-1)
	}
	for _, kind := range kinds {
		want := api.ErrRecordForm
		if string(b[:4]) == "SPJL" && b[4] == kind {
			want = api.ErrRecordSum
		}
		wantRefused(t, kind, b, want)
	}
}

func TestBurstsAreRefused(t *testing.T) {
	r := rand.New(rand.NewSource(32))
	for _, v := range []any{greatestHeader(), sampleCommit(), sampleCheck()} {
		good := laid(v)
		for bits := 1; bits <= 32; bits++ {
			for first := 0; first+bits <= 8*128; first++ {
				for _, between := range []uint32{0, 1<<32 - 1, r.Uint32()} {
					wantBurstRefused(t, good, first, bits, between)
				}
			}
		}
	}
}
