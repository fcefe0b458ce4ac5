package le_test

import (
	"bytes"
	"math"
	"slices"
	"testing"

	"spindle/api"
	"spindle/le"
)

func packer(t *testing.T, size int) *le.Packer {
	t.Helper()
	p, e := le.New(size)
	if p == nil || e != api.OK {
		t.Fatalf("New(%d): %v, %v", size, p, e)
	}
	return p
}

func reader(t *testing.T, b ...byte) *le.Reader {
	t.Helper()
	r := le.Read(b)
	if r == nil {
		t.Fatalf("Read(% x): nil", b)
	}
	return r
}

func wantPacker(t *testing.T, what string, p *le.Packer, at, left int, e api.Errno) {
	t.Helper()
	if p.At() != at || p.Left() != left || p.Err() != e {
		t.Errorf("%s: at %d, left %d, %v; want %d, %d, %v", what, p.At(), p.Left(), p.Err(), at, left, e)
	}
}

func wantBytes(t *testing.T, what string, p *le.Packer, want ...byte) {
	t.Helper()
	if b, e := p.Bytes(); e != api.OK || !bytes.Equal(b, want) {
		t.Errorf("%s: bytes % x, %v; want % x", what, b, e, want)
	}
}

func wantReader(t *testing.T, what string, r *le.Reader, at, left int, e api.Errno, place int) {
	t.Helper()
	if r.At() != at || r.Left() != left {
		t.Errorf("%s: at %d, left %d; want %d, %d", what, r.At(), r.Left(), at, left)
	}
	if got, where := r.Err(); got != e || where != place {
		t.Errorf("%s: %v at %d; want %v at %d", what, got, where, e, place)
	}
}

func wantEnd(t *testing.T, what string, r *le.Reader, e api.Errno, place int) {
	t.Helper()
	if got, where := r.End(); got != e || where != place {
		t.Errorf("%s: end is %v at %d; want %v at %d", what, got, where, e, place)
	}
}

func TestNewSizes(t *testing.T) {
	for _, size := range []int{0, 1, 128, 4095, 4096} {
		p := packer(t, size)
		wantPacker(t, "new", p, 0, size, api.OK)
		wantBytes(t, "new", p, make([]byte, size)...)
	}
	for _, size := range []int{-1, 4097, math.MinInt, math.MaxInt} {
		if p, e := le.New(size); p != nil || e != api.ErrArg {
			t.Errorf("New(%d): %v, %v; want nil, %v", size, p, e, api.ErrArg)
		}
	}
}

// puts are the packer's calls, each with the bytes that it is to append.
var puts = []struct {
	name string
	put  func(p *le.Packer)
	want []byte
}{
	{"U8", func(p *le.Packer) { p.U8(0xf1) }, []byte{0xf1}},
	{"U16", func(p *le.Packer) { p.U16(0xf102) }, []byte{0x02, 0xf1}},
	{"U32", func(p *le.Packer) { p.U32(0xf1020384) }, []byte{0x84, 0x03, 0x02, 0xf1}},
	{"U64", func(p *le.Packer) { p.U64(0xf102038495a60718) },
		[]byte{0x18, 0x07, 0xa6, 0x95, 0x84, 0x03, 0x02, 0xf1}},
	{"Raw", func(p *le.Packer) { p.Raw([]byte{9, 0, 8}) }, []byte{9, 0, 8}},
	{"Fill", func(p *le.Packer) { p.Fill(3, 0xaa) }, []byte{0xaa, 0xaa, 0xaa}},
}

func TestPutAppends(t *testing.T) {
	for _, c := range puts {
		n := len(c.want)
		p := packer(t, 2*n+2)
		p.U8(77)
		c.put(p)
		c.put(p)
		wantPacker(t, c.name, p, 2*n+1, 1, api.OK)
		wantBytes(t, c.name, p, slices.Concat([]byte{77}, c.want, c.want, []byte{0})...)
	}
}

func TestPutFillsTheLastByte(t *testing.T) {
	for _, c := range puts {
		p := packer(t, len(c.want))
		c.put(p)
		wantPacker(t, c.name, p, len(c.want), 0, api.OK)
		wantBytes(t, c.name, p, c.want...)
	}
}

func TestPutBeyondTheEnd(t *testing.T) {
	for _, c := range puts {
		n := len(c.want)
		p := packer(t, n+1)
		p.Fill(2, 5)
		c.put(p)
		wantPacker(t, c.name, p, 2, n-1, api.ErrLeFull)
		for range 2 {
			if b, e := p.Bytes(); len(b) != 0 || e != api.ErrLeFull {
				t.Errorf("%s: % x, %v", c.name, b, e)
			}
		}
		wantPacker(t, c.name, p, 2, n-1, api.ErrLeFull)
	}
}

func TestPackerErrorIsPermanent(t *testing.T) {
	for _, c := range puts {
		p := packer(t, 12)
		p.U8(1)
		p.Fill(12, 0)
		c.put(p) // there is room for it
		p.Raw(nil)
		p.Fill(0, 1)
		wantPacker(t, c.name, p, 1, 11, api.ErrLeFull)
	}
}

func TestPutNothing(t *testing.T) {
	for _, put := range []func(p *le.Packer){
		func(p *le.Packer) { p.Raw(nil) },
		func(p *le.Packer) { p.Raw([]byte{}) },
		func(p *le.Packer) { p.Fill(0, 5) },
		func(p *le.Packer) { p.Fill(-3, 5) },
		func(p *le.Packer) { p.Fill(math.MinInt, 5) },
	} {
		p := packer(t, 0)
		put(p)
		wantPacker(t, "nothing into none", p, 0, 0, api.OK)
		p = packer(t, 3)
		p.U16(0x0201)
		put(p)
		wantPacker(t, "nothing", p, 2, 1, api.OK)
		p.U8(3)
		put(p)
		wantPacker(t, "nothing at the end", p, 3, 0, api.OK)
		wantBytes(t, "nothing at the end", p, 1, 2, 3)
	}
}

func TestPutVeryMuch(t *testing.T) {
	p := packer(t, 4)
	p.U8(1)
	p.Fill(math.MaxInt, 7)
	wantPacker(t, "fill", p, 1, 3, api.ErrLeFull)
	p = packer(t, 4096)
	p.Raw(make([]byte, 4097))
	wantPacker(t, "raw", p, 0, 4096, api.ErrLeFull)
	p = packer(t, 4096)
	p.Raw(bytes.Repeat([]byte{3}, 4096))
	wantBytes(t, "raw", p, bytes.Repeat([]byte{3}, 4096)...)
}

func TestBytesChangesNothing(t *testing.T) {
	p := packer(t, 4)
	p.U8(1)
	wantBytes(t, "first", p, 1, 0, 0, 0)
	wantPacker(t, "first", p, 1, 3, api.OK)
	p.U8(2)
	wantBytes(t, "second", p, 1, 2, 0, 0)
}

func TestPackerSharesNoMemory(t *testing.T) {
	p := packer(t, 4)
	backing := []byte{1, 2, 3, 4}
	p.Raw(backing[:2])
	backing[0], backing[2] = 99, 98
	first, _ := p.Bytes()
	second, _ := p.Bytes()
	copy(first, "zzzz")
	_ = append(first, "zzzz"...)
	if !bytes.Equal(second, []byte{1, 2, 0, 0}) {
		t.Errorf("second: % x", second)
	}
	p.U8(5)
	wantBytes(t, "third", p, 1, 2, 5, 0)
	if !bytes.Equal(second, []byte{1, 2, 0, 0}) || !bytes.Equal(backing, []byte{99, 2, 98, 4}) {
		t.Errorf("second: % x, argument: % x", second, backing)
	}
}

// gets are the reader's numbers, each of its first bytes below.
var gets = []struct {
	name  string
	width int
	get   func(r *le.Reader) uint64
	want  uint64
}{
	{"U8", 1, func(r *le.Reader) uint64 { return uint64(r.U8()) }, 0xf8},
	{"U16", 2, func(r *le.Reader) uint64 { return uint64(r.U16()) }, 0xe7f8},
	{"U32", 4, func(r *le.Reader) uint64 { return uint64(r.U32()) }, 0xc5d6e7f8},
	{"U64", 8, func(r *le.Reader) uint64 { return r.U64() }, 0x8192a3b4c5d6e7f8},
}

var numberBytes = []byte{0xf8, 0xe7, 0xd6, 0xc5, 0xb4, 0xa3, 0x92, 0x81}

func TestReadNumbers(t *testing.T) {
	for _, c := range gets {
		n := c.width
		r := reader(t, slices.Concat([]byte{1}, numberBytes[:n], numberBytes[:n])...)
		r.U8()
		if a, b := c.get(r), c.get(r); a != c.want || b != c.want {
			t.Errorf("%s: %x, %x; want %x", c.name, a, b, c.want)
		}
		wantReader(t, c.name, r, 2*n+1, 0, api.OK, 0)
		wantEnd(t, c.name, r, api.OK, 0)
	}
}

func TestReadNumbersShort(t *testing.T) {
	for _, c := range gets {
		n := c.width
		r := reader(t, slices.Concat([]byte{1, 2}, numberBytes[:n-1])...)
		r.U16()
		if v := c.get(r); v != 0 {
			t.Errorf("%s: %x", c.name, v)
		}
		wantReader(t, c.name, r, 2, n-1, api.ErrLeShort, 2)
		wantEnd(t, c.name, r, api.ErrLeShort, 2)
	}
}

func TestReaderErrorIsPermanent(t *testing.T) {
	fails := []struct {
		fail  func(r *le.Reader)
		err   api.Errno
		place int
	}{
		{func(r *le.Reader) { r.Raw(30) }, api.ErrLeShort, 1},
		{func(r *le.Reader) { r.Noughts(30) }, api.ErrLeShort, 1},
		{func(r *le.Reader) { r.Noughts(5) }, api.ErrLeNought, 3},
	}
	calls := []func(r *le.Reader) uint64{
		func(r *le.Reader) uint64 { return uint64(len(r.Raw(2))) },
		func(r *le.Reader) uint64 { return uint64(len(r.Raw(99))) },
		func(r *le.Reader) uint64 { return uint64(len(r.Raw(-1))) },
		func(r *le.Reader) uint64 { r.Noughts(1); return 0 },
		func(r *le.Reader) uint64 { r.Noughts(4); return 0 },
		func(r *le.Reader) uint64 { r.Noughts(99); return 0 },
		func(r *le.Reader) uint64 { r.Noughts(-1); return 0 },
	}
	for _, c := range gets {
		calls = append(calls, c.get)
	}
	for _, f := range fails {
		for i, call := range calls {
			r := reader(t, slices.Concat([]byte{1, 0, 0}, numberBytes)...)
			r.U8()
			f.fail(r)
			if v := call(r); v != 0 {
				t.Errorf("call %d behind %v: %x", i, f.err, v)
			}
			wantReader(t, "behind it", r, 1, 10, f.err, f.place)
			wantEnd(t, "behind it", r, f.err, f.place)
		}
	}
}

func TestReaderRaw(t *testing.T) {
	r := reader(t, 1, 2, 3, 4, 5)
	if b := r.Raw(2); !bytes.Equal(b, []byte{1, 2}) {
		t.Errorf("first: % x", b)
	}
	for _, n := range []int{0, -1, math.MinInt} {
		if b := r.Raw(n); len(b) != 0 {
			t.Errorf("Raw(%d): % x", n, b)
		}
	}
	wantReader(t, "nothing", r, 2, 3, api.OK, 0)
	if b := r.Raw(3); !bytes.Equal(b, []byte{3, 4, 5}) {
		t.Errorf("rest: % x", b)
	}
	r.Raw(0)
	r.Raw(-1)
	wantReader(t, "all", r, 5, 0, api.OK, 0)
	for _, n := range []int{4, math.MaxInt} {
		r = reader(t, 1, 2, 3, 4, 5)
		r.U16()
		if b := r.Raw(n); len(b) != 0 {
			t.Errorf("Raw(%d): % x", n, b)
		}
		wantReader(t, "short", r, 2, 3, api.ErrLeShort, 2)
	}
}

func TestNoughts(t *testing.T) {
	for _, c := range []struct {
		data      []byte
		n         int
		at, place int
		err       api.Errno
	}{
		{[]byte{7, 0, 0, 0}, 2, 3, 0, api.OK},
		{[]byte{7, 0, 0, 0}, 3, 4, 0, api.OK},
		{[]byte{7, 0, 0, 5}, 2, 3, 0, api.OK},
		{[]byte{7, 0, 0, 0}, 4, 1, 1, api.ErrLeShort},
		{[]byte{7, 0, 0, 0}, math.MaxInt, 1, 1, api.ErrLeShort},
		{[]byte{7, 0, 5, 0}, 4, 1, 1, api.ErrLeShort}, // short ahead of what is there
		{[]byte{7, 5, 0, 0}, 3, 1, 1, api.ErrLeNought},
		{[]byte{7, 0, 0, 5}, 3, 1, 3, api.ErrLeNought},
		{[]byte{7, 0, 128, 5}, 3, 1, 2, api.ErrLeNought},
		{[]byte{7, 5, 0, 0}, 0, 1, 0, api.OK},
		{[]byte{7, 5, 0, 0}, -1, 1, 0, api.OK},
		{[]byte{7, 5, 0, 0}, math.MinInt, 1, 0, api.OK},
		{[]byte{7}, 0, 1, 0, api.OK},
		{[]byte{7}, -3, 1, 0, api.OK},
		{[]byte{7}, 1, 1, 1, api.ErrLeShort},
	} {
		r := reader(t, c.data...)
		r.U8()
		r.Noughts(c.n)
		wantReader(t, "noughts", r, c.at, len(c.data)-c.at, c.err, c.place)
	}
}

func TestEnd(t *testing.T) {
	r := reader(t, 1, 2)
	wantEnd(t, "none read", r, api.ErrLeMore, 0)
	r.U8()
	wantEnd(t, "one read", r, api.ErrLeMore, 1)
	wantReader(t, "End changes nothing", r, 1, 1, api.OK, 0)
	if v := r.U8(); v != 2 {
		t.Errorf("behind End: %d", v)
	}
	wantEnd(t, "all read", r, api.OK, 0)
	r.U8()
	wantEnd(t, "too far", r, api.ErrLeShort, 2)
}

func TestReadNothing(t *testing.T) {
	for _, b := range [][]byte{nil, {}} {
		r := reader(t, b...)
		wantReader(t, "empty", r, 0, 0, api.OK, 0)
		wantEnd(t, "empty", r, api.OK, 0)
		r.U8()
		wantReader(t, "empty", r, 0, 0, api.ErrLeShort, 0)
	}
}

func TestReadManyBytes(t *testing.T) {
	r := reader(t, make([]byte, 10000)...)
	r.Noughts(9999)
	wantReader(t, "many", r, 9999, 1, api.OK, 0)
}

func TestReaderSharesNoMemory(t *testing.T) {
	backing := []byte{1, 2, 3, 4, 5, 6}
	r := le.Read(backing[:4])
	other := le.Read(backing[:4])
	backing[0] = 99
	first := r.Raw(2)
	same := other.Raw(2)
	first[1] = 98
	_ = append(first, 97, 96)
	if !bytes.Equal(same, []byte{1, 2}) || !bytes.Equal(backing, []byte{99, 2, 3, 4, 5, 6}) {
		t.Errorf("another reader's: % x, argument: % x", same, backing)
	}
	if b := r.Raw(2); !bytes.Equal(b, []byte{3, 4}) {
		t.Errorf("behind it: % x", b)
	}
	r.Raw(1)
	wantReader(t, "spare capacity", r, 4, 0, api.ErrLeShort, 4)
	wantReader(t, "another reader", other, 2, 2, api.OK, 0)
}

func TestPackersAreIndependent(t *testing.T) {
	a, b := packer(t, 4), packer(t, 4)
	a.U16(0x0102)
	b.U32(0x0a0b0c0d)
	a.U32(0)
	wantPacker(t, "the one that failed", a, 2, 2, api.ErrLeFull)
	wantPacker(t, "the other", b, 4, 0, api.OK)
	wantBytes(t, "the other", b, 13, 12, 11, 10)
}

var edges = []uint64{0, 1, 127, 128, 255, 256, 65535, 65536, 1<<32 - 1, 1 << 32, 1 << 62, 1 << 63,
	0x0123456789abcdef, 0xfedcba9876543210, math.MaxUint64}

func TestReadBackUnchanged(t *testing.T) {
	for _, v := range edges {
		p := packer(t, 22)
		p.U8(uint8(v))
		p.U64(v)
		p.Fill(2, 0)
		p.U16(uint16(v))
		p.Raw([]byte{1, 2})
		p.U32(uint32(v))
		b, _ := p.Bytes()
		r := le.Read(b)
		if got := r.U8(); got != uint8(v) {
			t.Errorf("%x: U8 %x", v, got)
		}
		if got := r.U64(); got != v {
			t.Errorf("%x: U64 %x", v, got)
		}
		r.Noughts(2)
		if got := r.U16(); got != uint16(v) {
			t.Errorf("%x: U16 %x", v, got)
		}
		if got := r.Raw(2); !bytes.Equal(got, []byte{1, 2}) {
			t.Errorf("%x: Raw % x", v, got)
		}
		if got := r.U32(); got != uint32(v) {
			t.Errorf("%x: U32 %x", v, got)
		}
		wantEnd(t, "the rest", r, api.ErrLeMore, 19)
		r.Noughts(3)
		wantEnd(t, "all", r, api.OK, 0)
	}
}

func TestHalves(t *testing.T) {
	for _, v := range edges {
		var records [][]byte
		for width := 1; width <= 8; width *= 2 {
			p := packer(t, 8)
			for at := 0; at < 8; at += width {
				part := v >> (8 * at)
				switch width {
				case 1:
					p.U8(uint8(part))
				case 2:
					p.U16(uint16(part))
				case 4:
					p.U32(uint32(part))
				case 8:
					p.U64(part)
				}
			}
			b, e := p.Bytes()
			if e != api.OK {
				t.Fatalf("%x in widths of %d: %v", v, width, e)
			}
			records = append(records, b)
		}
		for _, b := range records[1:] {
			if !bytes.Equal(b, records[0]) {
				t.Errorf("%x: % x", v, records)
			}
		}
		r := le.Read(records[0])
		if low, high := r.U32(), r.U32(); uint64(low)|uint64(high)<<32 != v {
			t.Errorf("%x: halves %x and %x", v, low, high)
		}
	}
}

func TestChangedByteIsDetected(t *testing.T) {
	for _, v := range edges {
		p := packer(t, 8)
		p.U64(v)
		b, _ := p.Bytes()
		for at := range b {
			for bit := range 8 {
				changed := slices.Clone(b)
				changed[at] ^= 1 << bit
				want := v ^ 1<<(8*at+bit)
				if got := le.Read(changed).U64(); got != want {
					t.Errorf("%x, bit %d of byte %d: %x", v, bit, at, got)
				}
			}
		}
	}
}

func TestErrorNumbers(t *testing.T) {
	for e, want := range map[api.Errno]uint16{
		api.ErrArg: 1, api.ErrLeFull: 10, api.ErrLeShort: 11, api.ErrLeNought: 12, api.ErrLeMore: 13,
	} {
		if uint16(e) != want {
			t.Errorf("%v is %d", e, want)
		}
	}
}

func TestDocumentExamples(t *testing.T) {
	p := packer(t, 8)
	p.U16(258)
	p.U8(7)
	wantPacker(t, "example 1", p, 3, 5, api.OK)
	wantBytes(t, "example 1", p, 2, 1, 7, 0, 0, 0, 0, 0)
	p.U64(1)
	wantPacker(t, "example 1", p, 3, 5, api.ErrLeFull)

	r := reader(t, 2, 1, 0, 9)
	if v := r.U16(); v != 258 {
		t.Errorf("example 2: %d", v)
	}
	r.Noughts(2)
	wantReader(t, "example 2", r, 2, 2, api.ErrLeNought, 3)
	if v := r.U8(); v != 0 {
		t.Errorf("example 2: U8 is %d", v)
	}
	wantEnd(t, "example 2", r, api.ErrLeNought, 3)
	r = reader(t, 1)
	if v := r.U16(); v != 0 {
		t.Errorf("example 2: %d", v)
	}
	wantReader(t, "example 2", r, 0, 1, api.ErrLeShort, 0)
	r = reader(t, 1, 2)
	r.U8()
	wantEnd(t, "example 2", r, api.ErrLeMore, 1)
}
