package crc_test

import (
	"bytes"
	"hash/crc32"
	"math"
	"slices"
	"testing"

	"spindle/api"
	"spindle/crc"
)

// register is the document's description of Sum and More, bit by bit.
func register(sum uint32, b []byte) uint32 {
	r := ^sum
	for _, x := range b {
		r ^= uint32(x)
		for range 8 {
			out := r & 1
			r >>= 1
			if out == 1 {
				r ^= 0x82f63b78
			}
		}
	}
	return ^r
}

// mixed is n bytes without a pattern, the same ones at every run.
func mixed(n int, seed uint32) []byte {
	b := make([]byte, n)
	for i := range b {
		seed = seed*1664525 + 1013904223
		b[i] = byte(seed >> 24)
	}
	return b
}

func rising(n int) []byte {
	b := make([]byte, n)
	for i := range b {
		b[i] = byte(i)
	}
	return b
}

func falling(n int) []byte {
	b := rising(n)
	slices.Reverse(b)
	return b
}

// anySums are values that a checksum may have, whatever it is of.
var anySums = []uint32{0, 1, 2, 7, 0x80000000, 0x7fffffff, 0x82f63b78, 0x12345678, 0xe3069283, 0xfffffffe, math.MaxUint32}

func wantSum(t *testing.T, what string, got, want uint32) {
	t.Helper()
	if got != want {
		t.Errorf("%s: %08x; want %08x", what, got, want)
	}
}

func wantJoin(t *testing.T, what string, first, second uint32, n int, want uint32) {
	t.Helper()
	if got, e := crc.Join(first, second, n); got != want || e != api.OK {
		t.Errorf("%s: Join(%08x, %08x, %d) is %08x, %v; want %08x", what, first, second, n, got, e, want)
	}
}

func TestSumKnown(t *testing.T) {
	for _, c := range []struct {
		name string
		data []byte
		want uint32
	}{
		{"nil", nil, 0},
		{"empty", []byte{}, 0},
		{"digits", []byte("123456789"), 0xe3069283},
		{"one zero", make([]byte, 1), 0x527d5351},
		{"four zeros", make([]byte, 4), 0x48674bc7},
		{"32 zeros", make([]byte, 32), 0x8a9136aa},
		{"32 of 255", bytes.Repeat([]byte{255}, 32), 0x62a8ab43},
		{"32 rising", rising(32), 0x46dd794e},
		{"32 falling", falling(32), 0x113fdb5c},
	} {
		wantSum(t, c.name, crc.Sum(c.data), c.want)
	}
}

func TestSumOfEachByte(t *testing.T) {
	for i := range 256 {
		b := []byte{byte(i)}
		wantSum(t, "a byte", crc.Sum(b), register(0, b))
		b = []byte{77, byte(i), 0}
		wantSum(t, "a byte between two", crc.Sum(b), register(0, b))
	}
}

func TestSumOfManyLengths(t *testing.T) {
	castagnoli := crc32.MakeTable(crc32.Castagnoli)
	for n := range 300 {
		b := mixed(n, uint32(n))
		wantSum(t, "mixed", crc.Sum(b), register(0, b))
		wantSum(t, "mixed, as the library has it", crc.Sum(b), crc32.Checksum(b, castagnoli))
	}
	b := mixed(1<<20+3, 5)
	wantSum(t, "a million bytes", crc.Sum(b), crc32.Checksum(b, castagnoli))
}

func TestMoreOnAnySum(t *testing.T) {
	for _, sum := range anySums {
		for _, b := range [][]byte{{0}, {255}, make([]byte, 4), rising(256), mixed(131, sum)} {
			wantSum(t, "More", crc.More(sum, b), register(sum, b))
		}
		wantSum(t, "More of nil", crc.More(sum, nil), sum)
		wantSum(t, "More of no bytes", crc.More(sum, []byte{}), sum)
	}
}

func TestPiecesTogether(t *testing.T) {
	for _, all := range [][]byte{[]byte("123456789"), make([]byte, 40), bytes.Repeat([]byte{255}, 33), mixed(129, 9), {7}, {}} {
		want := register(0, all)
		for cut := range len(all) + 1 {
			a, b := all[:cut], all[cut:]
			wantSum(t, "More", crc.More(crc.Sum(a), b), want)
			wantJoin(t, "two pieces", crc.Sum(a), crc.Sum(b), len(b), want)
			d := crc.New()
			d.Add(a)
			d.Add(b)
			wantSum(t, "digest", d.Sum(), want)
		}
	}
}

func TestManyPieces(t *testing.T) {
	all := mixed(2000, 3)
	var more, join uint32
	d := crc.New()
	for at, n := 0, 0; at < len(all); n++ {
		piece := all[at:min(at+n, len(all))]
		at += len(piece)
		more = crc.More(more, piece)
		join, _ = crc.Join(join, crc.Sum(piece), len(piece))
		if got := d.Add(piece); got != at {
			t.Errorf("Add: %d; want %d", got, at)
		}
		want := register(0, all[:at])
		wantSum(t, "More", more, want)
		wantSum(t, "Join", join, want)
		wantSum(t, "digest", d.Sum(), want)
	}
}

func TestJoinFromTheRight(t *testing.T) {
	a, b, c := mixed(5, 1), mixed(70, 2), mixed(13, 3)
	right, _ := crc.Join(crc.Sum(b), crc.Sum(c), len(c))
	wantJoin(t, "a and the others", crc.Sum(a), right, len(b)+len(c), register(0, slices.Concat(a, b, c)))
}

func TestJoinOfAnySums(t *testing.T) {
	for _, first := range anySums {
		for _, second := range anySums {
			wantJoin(t, "of no bytes", first, second, 0, first^second)
			for _, n := range []int{1, 2, 3, 4, 5, 7, 8, 31, 32, 33, 255, 256, 4096} {
				zeros := make([]byte, n)
				wantJoin(t, "of any", first, second, n, register(first, zeros)^second^register(0, zeros))
			}
		}
	}
}

func TestJoinBelowNought(t *testing.T) {
	for _, n := range []int{-1, -2, -5, math.MinInt32, math.MinInt + 1, math.MinInt} {
		for _, first := range anySums {
			if sum, e := crc.Join(first, 2, n); sum != 0 || e != api.ErrArg {
				t.Errorf("Join(%08x, 2, %d): %08x, %v", first, n, sum, e)
			}
		}
	}
}

func TestJoinOfLongPieces(t *testing.T) {
	const n = 3<<20 + 5
	zeros := make([]byte, n)
	for _, first := range anySums {
		wantJoin(t, "millions", first, 9, n, crc.More(first, zeros)^9^crc.Sum(zeros))
	}
}

// The polynomial is x + 1 times a primitive one of degree 31: after 2^31 - 1 bits, and after as many bytes, a register is what it was.
func TestJoinComesRound(t *testing.T) {
	const round = 1<<31 - 1
	for _, first := range anySums {
		wantJoin(t, "once round", first, 0, round, first)
		wantJoin(t, "once round and 3", first, 0x55, round+3, register(first, make([]byte, 3))^0x55^register(0, make([]byte, 3)))
		wantJoin(t, "2^62", first, 0, 1<<62, register(first, []byte{0})^register(0, []byte{0}))
		wantJoin(t, "the largest", first, 6, math.MaxInt, register(first, []byte{0})^6^register(0, []byte{0}))
	}
}

func TestJoinOfHalves(t *testing.T) {
	for digits := range 62 {
		n := 1 << digits
		for _, first := range anySums {
			half, _ := crc.Join(first, 0, n)
			want, _ := crc.Join(half, 0, n+1)
			wantJoin(t, "both at once", first, 0, 2*n+1, want)
		}
	}
}

func TestDigestOfNothing(t *testing.T) {
	d := crc.New()
	wantSum(t, "new", d.Sum(), 0)
	if n := d.Add(nil); n != 0 {
		t.Errorf("Add of nil: %d", n)
	}
	if n := d.Add([]byte{}); n != 0 {
		t.Errorf("Add of no bytes: %d", n)
	}
	wantSum(t, "nothing added", d.Sum(), 0)
}

func TestDigestSumBetween(t *testing.T) {
	d := crc.New()
	for _, c := range []struct {
		piece string
		n     int
		all   string
	}{
		{"1234", 4, "1234"},
		{"", 4, "1234"},
		{"56789", 9, "123456789"},
		{"\x00", 10, "123456789\x00"},
		{"\x00\x00", 12, "123456789\x00\x00\x00"},
	} {
		if n := d.Add([]byte(c.piece)); n != c.n {
			t.Errorf("Add(%q): %d; want %d", c.piece, n, c.n)
		}
		for range 3 { // asking changes nothing
			wantSum(t, "between", d.Sum(), register(0, []byte(c.all)))
		}
	}
}

func TestDigestsAreIndependent(t *testing.T) {
	a, b := crc.New(), crc.New()
	a.Add([]byte("1234"))
	if n := b.Add([]byte("x")); n != 1 {
		t.Errorf("the other: %d", n)
	}
	if n := a.Add([]byte("56789")); n != 9 {
		t.Errorf("the first: %d", n)
	}
	wantSum(t, "the first", a.Sum(), 0xe3069283)
	wantSum(t, "the other", b.Sum(), register(0, []byte("x")))
	wantSum(t, "a third", crc.New().Sum(), 0)
}

func TestArgumentsStay(t *testing.T) {
	backing := mixed(80, 4)
	before := slices.Clone(backing)
	b := backing[8:40] // with spare capacity
	d := crc.New()
	want := register(0, before[8:40])
	wantSum(t, "Sum", crc.Sum(b), want)
	wantSum(t, "More", crc.More(5, b), register(5, before[8:40]))
	d.Add(b)
	if !bytes.Equal(backing, before) {
		t.Errorf("changed: % x; want % x", backing, before)
	}
	backing[50] ^= 1 // what is behind the argument doesn't count
	wantSum(t, "other spare capacity", crc.Sum(b), want)
	backing[8] ^= 1 // the digest has kept nothing of it
	wantSum(t, "digest", d.Sum(), want)
	d.Add([]byte{1})
	wantSum(t, "digest and one more", d.Sum(), register(want, []byte{1}))
}

func TestExclusiveOr(t *testing.T) {
	for n := range 140 {
		a, b := mixed(n, 11), mixed(n, 12)
		both := make([]byte, n)
		for i := range both {
			both[i] = a[i] ^ b[i]
		}
		if x := crc.Sum(both) ^ crc.Sum(a) ^ crc.Sum(b) ^ crc.Sum(make([]byte, n)); x != 0 {
			t.Errorf("%d bytes: %08x", n, x)
		}
	}
}

// runs are changes of exactly so many consecutive bits: the first and the last of them, and some between.
func runs(bits int) []uint64 {
	ends := uint64(1) | 1<<(bits-1)
	out := []uint64{ends, 1<<bits - 1}
	seed := uint64(bits)
	for range 6 {
		seed = seed*6364136223846793005 + 1442695040888963407
		out = append(out, ends|seed>>32&(1<<bits-1))
	}
	return out
}

// change flips the bits of the run, from that one on; a byte's lowest bit is its first.
func change(b []byte, at int, run uint64) []byte {
	changed := slices.Clone(b)
	for i := 0; run>>i != 0; i++ {
		changed[(at+i)/8] ^= byte(run>>i&1) << ((at + i) % 8)
	}
	return changed
}

func TestChangedRunIsDetected(t *testing.T) {
	for _, b := range [][]byte{mixed(128, 21), make([]byte, 12), bytes.Repeat([]byte{255}, 5), mixed(4, 22), {0}} {
		sum := crc.Sum(b)
		for bits := 1; bits <= min(32, 8*len(b)); bits++ {
			for _, run := range runs(bits) {
				for at := range 8*len(b) - bits + 1 { // from the beginning, across bytes, to the end
					if crc.Sum(change(b, at, run)) == sum {
						t.Fatalf("%d bytes: run %x at bit %d is not detected", len(b), run, at)
					}
				}
			}
		}
	}
}

func TestChangedByteIsDetected(t *testing.T) {
	b := mixed(128, 31)
	sum := crc.Sum(b)
	for at := range b {
		for x := 1; x < 256; x++ {
			changed := slices.Clone(b)
			changed[at] ^= byte(x)
			if crc.Sum(changed) == sum {
				t.Fatalf("byte %d, changed by %02x, is not detected", at, x)
			}
		}
	}
}

func TestErrorNumber(t *testing.T) {
	if uint16(api.ErrArg) != 1 {
		t.Errorf("ErrArg is %d", uint16(api.ErrArg))
	}
}

func TestDocumentExamples(t *testing.T) {
	wantSum(t, "example 1", crc.Sum([]byte("123456789")), 0xe3069283)
	wantSum(t, "example 1", crc.Sum(nil), 0)
	wantSum(t, "example 1", crc.Sum([]byte{0}), 0x527d5351)
	wantSum(t, "example 1", crc.Sum([]byte{0, 0, 0, 0}), 0x48674bc7)
	wantSum(t, "example 2", crc.More(crc.Sum([]byte("1234")), []byte("56789")), 0xe3069283)
	wantJoin(t, "example 2", crc.Sum([]byte("1234")), crc.Sum([]byte("56789")), 5, 0xe3069283)
	if sum, e := crc.Join(1, 2, -1); sum != 0 || e != api.ErrArg {
		t.Errorf("example 2: %08x, %v", sum, e)
	}
	wantJoin(t, "example 2", 7, 0, 0, 7)
	d := crc.New()
	if a, b := d.Add([]byte("1234")), d.Add([]byte("56789")); a != 4 || b != 9 {
		t.Errorf("example 2: %d, %d", a, b)
	}
	wantSum(t, "example 2", d.Sum(), 0xe3069283)
}
