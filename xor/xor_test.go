package xor_test

import (
	"bytes"
	"math"
	"slices"
	"testing"

	"spindle/api"
	"spindle/xor"
)

// odd is the document's description of the exclusive or, bit by bit.
func odd(size int, rows ...[]byte) []byte {
	b := make([]byte, size)
	for i := range 8 * size {
		ones := 0
		for _, row := range rows {
			ones += int(row[i/8] >> (i % 8) & 1)
		}
		b[i/8] |= byte(ones%2) << (i % 8)
	}
	return b
}

// mixed is n bytes without a pattern, the same ones at every run.
func mixed(n int, seed uint32) []byte {
	b := make([]byte, n)
	seed *= 0x9e3779b1 // or else seeds that lie near each other begin with the same bytes
	for i := range b {
		seed = seed*1664525 + 1013904223
		b[i] = byte(seed >> 24)
	}
	return b
}

func mixedRows(count, size int) [][]byte {
	rows := make([][]byte, count)
	for i := range rows {
		rows[i] = mixed(size, uint32(1000*size+i))
	}
	return rows
}

func cloneRows(rows [][]byte) [][]byte {
	c := slices.Clone(rows)
	for i, row := range c {
		c[i] = slices.Clone(row)
	}
	return c
}

func sameRows(a, b [][]byte) bool { return slices.EqualFunc(a, b, bytes.Equal) }

func wantRow(t *testing.T, what string, got []byte, e api.Errno, want ...byte) {
	t.Helper()
	if e != api.OK || !bytes.Equal(got, want) {
		t.Errorf("%s: % x, %v; want % x", what, got, e, want)
	}
}

// wantNone is about a refused call: nothing beside the error.
func wantNone(t *testing.T, what string, got []byte, e, want api.Errno) {
	t.Helper()
	if len(got) != 0 || e != want {
		t.Errorf("%s: % x, %v; want nothing, %v", what, got, e, want)
	}
}

func wantEven(t *testing.T, what string, is bool, e api.Errno, want bool) {
	t.Helper()
	if is != want || e != api.OK {
		t.Errorf("%s: %v, %v; want %v", what, is, e, want)
	}
}

func of(t *testing.T, rows ...[]byte) []byte {
	t.Helper()
	b, e := xor.Of(rows...)
	if e != api.OK {
		t.Fatalf("Of %d rows: %v", len(rows), e)
	}
	return b
}

func sum(t *testing.T, size int) *xor.Sum {
	t.Helper()
	s, e := xor.New(size)
	if s == nil || e != api.OK {
		t.Fatalf("New(%d): %v, %v", size, s, e)
	}
	return s
}

func wantSum(t *testing.T, what string, s *xor.Sum, count int, value ...byte) {
	t.Helper()
	nought := bytes.Equal(value, make([]byte, len(value)))
	for range 2 { // asking changes nothing
		if s.Count() != count || s.Nought() != nought || !bytes.Equal(s.Value(), value) {
			t.Errorf("%s: count %d, nought %v, value % x; want %d, %v, % x", what, s.Count(), s.Nought(), s.Value(), count, nought, value)
		}
	}
}

// shapes are numbers of rows and their sizes, some above the size that a sum may have.
var shapes = []struct{ count, size int }{
	{1, 1}, {2, 1}, {3, 1}, {2, 7}, {3, 8}, {3, 128}, {4, 9}, {16, 128}, {17, 33}, {5, 4096}, {3, 4097}, {2, 10000}, {300, 3}, {1, 128},
}

func TestOf(t *testing.T) {
	for _, c := range shapes {
		rows := mixedRows(c.count, c.size)
		b, e := xor.Of(rows...)
		wantRow(t, "Of", b, e, odd(c.size, rows...)...)
	}
	ones, noughts := bytes.Repeat([]byte{255}, 5), make([]byte, 5)
	wantRow(t, "ones and noughts", of(t, ones, noughts), api.OK, ones...)
	wantRow(t, "ones thrice", of(t, ones, ones, ones), api.OK, ones...)
}

func TestOfNoRows(t *testing.T) {
	b, e := xor.Of()
	wantNone(t, "Of()", b, e, api.ErrArg)
	b, e = xor.Of([][]byte{}...)
	wantNone(t, "Of of an empty list", b, e, api.ErrArg)
}

func TestOfOneRow(t *testing.T) {
	for _, row := range [][]byte{{0}, {7}, {1, 2, 3}, mixed(128, 1), mixed(5000, 2)} {
		wantRow(t, "one row", of(t, row), api.OK, row...)
	}
}

func TestRowsOfNoBytes(t *testing.T) {
	for _, rows := range [][][]byte{{nil}, {{}}, {nil, nil}, {{}, nil, {}}, make([][]byte, 100)} {
		b, e := xor.Of(rows...)
		wantRow(t, "Of", b, e)
		is, e := xor.Even(rows...)
		wantEven(t, "Even", is, e, true)
		if len(rows) > 1 {
			b, e = xor.Missing(rows, 1)
			wantRow(t, "Missing", b, e)
		}
	}
	for _, none := range [][]byte{nil, {}} {
		b, e := xor.Patch(nil, none, []byte{})
		wantRow(t, "Patch", b, e)
	}
}

// others are rows that don't fit in with those of n bytes.
func others(n int) [][]byte {
	rows := [][]byte{make([]byte, n+1), make([]byte, 2*n)}
	if n > 1 {
		rows = append(rows, make([]byte, n-1), make([]byte, 1))
	}
	return append(rows, nil, []byte{})
}

func TestUnequalLengthsAtEachPlace(t *testing.T) {
	for _, count := range []int{2, 3, 5, 16} {
		for _, size := range []int{1, 2, 128} {
			rows := mixedRows(count, size)
			for at := range rows {
				for _, other := range others(size) {
					changed := slices.Clone(rows)
					changed[at] = other
					b, e := xor.Of(changed...)
					wantNone(t, "Of", b, e, api.ErrLength)
					is, e := xor.Even(changed...)
					if is || e != api.ErrLength {
						t.Errorf("Even: %v, %v", is, e)
					}
				}
			}
		}
	}
}

// The spare capacity of a row is not a part of it.
func TestSpareCapacityIsNoPart(t *testing.T) {
	backing := []byte{1, 2, 3, 4}
	row := []byte{5, 6, 7}
	b, e := xor.Of(row, backing[:2])
	wantNone(t, "Of", b, e, api.ErrLength)
	wantRow(t, "Of", of(t, row[:2], backing[:2]), api.OK, 4, 4)
	b, e = xor.Patch(backing[:2], row, row)
	wantNone(t, "Patch", b, e, api.ErrLength)
	rows := [][]byte{{1}, {2}, {9, 9}}
	wantRow(t, "Of of a list with spare capacity", of(t, rows[:2]...), api.OK, 3)
	b, e = xor.Missing(rows[:2], 2)
	wantNone(t, "Missing", b, e, api.ErrArg)
	b, e = xor.Missing(rows[:1], 0)
	wantNone(t, "Missing", b, e, api.ErrArg)
	b, e = xor.Missing(rows[:2], 1)
	wantRow(t, "Missing", b, e, 1)
	if s := sum(t, 2); s.Add(row) != api.ErrLength || s.Add(backing[:2]) != api.OK {
		t.Error("Add goes by the capacity")
	}
}

func TestPatch(t *testing.T) {
	for _, size := range []int{1, 2, 8, 128, 4097} {
		rows := mixedRows(3, size)
		b, e := xor.Patch(rows[0], rows[1], rows[2])
		wantRow(t, "Patch", b, e, odd(size, rows...)...)
		b, e = xor.Patch(rows[0], rows[1], rows[1])
		wantRow(t, "nothing changed", b, e, rows[0]...)
		b, e = xor.Patch(rows[0], rows[0], rows[0])
		wantRow(t, "the same row", b, e, rows[0]...)
	}
}

func TestPatchOfUnequalLengths(t *testing.T) {
	for _, size := range []int{1, 2, 128} {
		for at := range 3 {
			for _, other := range others(size) {
				rows := mixedRows(3, size)
				rows[at] = other
				b, e := xor.Patch(rows[0], rows[1], rows[2])
				wantNone(t, "Patch", b, e, api.ErrLength)
			}
		}
	}
	b, e := xor.Patch([]byte{1}, []byte{1, 2}, []byte{1, 2, 3})
	wantNone(t, "all three unlike", b, e, api.ErrLength)
	b, e = xor.Patch(nil, nil, []byte{1})
	wantNone(t, "one that is not empty", b, e, api.ErrLength)
}

func TestMissing(t *testing.T) {
	for _, c := range shapes {
		rows := mixedRows(c.count, c.size)
		if c.count < 2 {
			continue
		}
		for at := range min(c.count, 20) {
			rest := slices.Concat(rows[:at], rows[at+1:])
			b, e := xor.Missing(rows, at)
			wantRow(t, "Missing", b, e, odd(c.size, rest...)...)
		}
	}
}

func TestMissingIgnoresTheRow(t *testing.T) {
	for _, count := range []int{2, 3, 6} {
		rows := mixedRows(count, 9)
		for at := range rows {
			want, _ := xor.Missing(rows, at)
			for _, other := range append(others(9), mixed(9, 77), mixed(5000, 3)) {
				changed := slices.Clone(rows)
				changed[at] = other
				b, e := xor.Missing(changed, at)
				wantRow(t, "Missing", b, e, want...)
			}
		}
	}
	b, e := xor.Missing([][]byte{{}, {1, 2}}, 1)
	wantRow(t, "only an empty one is left", b, e)
}

func TestMissingOfUnequalLengths(t *testing.T) {
	for at := range 4 {
		for place := range 4 {
			for _, other := range others(3) {
				if place == at {
					continue
				}
				rows := mixedRows(4, 3)
				rows[place] = other
				b, e := xor.Missing(rows, at)
				wantNone(t, "Missing", b, e, api.ErrLength)
				rows[at] = other // which doesn't help
				b, e = xor.Missing(rows, at)
				wantNone(t, "Missing", b, e, api.ErrLength)
			}
		}
	}
}

func TestMissingRefused(t *testing.T) {
	two, unlike := [][]byte{{1}, {2}}, [][]byte{{1}, {1, 2}, {1, 2, 3}}
	for _, at := range []int{-1, -2, math.MinInt, 3, 4, math.MaxInt} {
		for _, rows := range [][][]byte{nil, {}, {{1}}, {nil}, two, mixedRows(3, 5), unlike} { // ErrArg ahead of ErrLength
			b, e := xor.Missing(rows, at)
			wantNone(t, "index", b, e, api.ErrArg)
		}
	}
	for _, c := range []struct {
		rows [][]byte
		at   int
	}{{nil, 0}, {[][]byte{}, 0}, {[][]byte{{1}}, 0}, {[][]byte{{}}, 0}, {[][]byte{nil}, 0}, {[][]byte{{1}}, 1}, {two, 2}} {
		b, e := xor.Missing(c.rows, c.at)
		wantNone(t, "few rows", b, e, api.ErrArg)
	}
}

func TestEven(t *testing.T) {
	for _, c := range shapes {
		rows := mixedRows(c.count, c.size)
		parity := odd(c.size, rows...)
		if bytes.Equal(parity, make([]byte, c.size)) {
			t.Fatalf("%d rows of %d bytes are even as they are", c.count, c.size)
		}
		is, e := xor.Even(rows...)
		wantEven(t, "without the parity", is, e, false)
		is, e = xor.Even(append(rows, parity)...)
		wantEven(t, "with the parity", is, e, true)
	}
	for size := range 4 {
		is, e := xor.Even(make([]byte, size))
		wantEven(t, "one row of zeros", is, e, true)
	}
	is, e := xor.Even([]byte{0, 0, 1})
	wantEven(t, "one row", is, e, false)
}

// One bit is enough, wherever it is.
func TestEvenSeesEachBit(t *testing.T) {
	a, b := mixed(17, 5), mixed(17, 6)
	parity := odd(17, a, b)
	for bit := range 8 * len(a) {
		changed := slices.Clone(parity)
		changed[bit/8] ^= 1 << (bit % 8)
		is, e := xor.Even(a, b, changed)
		wantEven(t, "one bit", is, e, false)
		s := sum(t, 17)
		for _, row := range [][]byte{a, b, changed} {
			s.Add(row)
		}
		wantSum(t, "one bit", s, 3, odd(17, a, b, changed)...)
	}
}

func TestEvenRefused(t *testing.T) {
	for _, rows := range [][][]byte{nil, {}} {
		if is, e := xor.Even(rows...); is || e != api.ErrArg {
			t.Errorf("no rows: %v, %v", is, e)
		}
	}
	if is, e := xor.Even([]byte{0}, []byte{0, 0}); is || e != api.ErrLength {
		t.Errorf("unlike zeros: %v, %v", is, e)
	}
}

func TestFirst(t *testing.T) {
	for _, c := range []struct {
		a, b []byte
		want int
	}{
		{nil, nil, -1},
		{nil, []byte{}, -1},
		{[]byte{0}, []byte{0}, -1},
		{[]byte{1, 2, 3}, []byte{1, 2, 3}, -1},
		{nil, []byte{0}, 0},
		{[]byte{}, []byte{5, 6}, 0},
		{[]byte{1}, []byte{1, 2}, 1},
		{[]byte{1, 2}, []byte{1, 2, 0, 0}, 2},
		{[]byte{1}, []byte{2}, 0},
		{[]byte{1}, []byte{2, 1}, 0},
		{[]byte{1, 2}, []byte{1, 3}, 1},
		{[]byte{1, 2, 3}, []byte{1, 3}, 1}, // differs ahead of the end of the shorter one
		{[]byte{1, 2, 3, 4}, []byte{1, 9, 3, 9}, 1},
		{[]byte{0}, []byte{128}, 0},
	} {
		if ab, ba := xor.First(c.a, c.b), xor.First(c.b, c.a); ab != c.want || ba != c.want {
			t.Errorf("First of % x and % x: %d and %d; want %d", c.a, c.b, ab, ba, c.want)
		}
	}
}

func TestFirstAtEachPlace(t *testing.T) {
	a := mixed(300, 8)
	for at := range a {
		b := slices.Clone(a)
		b[at] ^= 1 << (at % 8)
		b[len(b)-1] ^= 64
		if at == len(b)-1 {
			b[at] = ^a[at]
		}
		if x, y := xor.First(a, b), xor.First(b, a); x != at || y != at {
			t.Errorf("differ at %d: %d and %d", at, x, y)
		}
		if x, y := xor.First(a, a[:at]), xor.First(a[:at], a); x != at || y != at {
			t.Errorf("prefix of %d: %d and %d", at, x, y)
		}
	}
	if x := xor.First(a, slices.Clone(a)); x != -1 {
		t.Errorf("equal: %d", x)
	}
}

func TestNew(t *testing.T) {
	for _, size := range []int{0, 1, 128, 4095, 4096} {
		s := sum(t, size)
		wantSum(t, "new", s, 0, make([]byte, size)...)
		row := mixed(size, 3)
		if e := s.Add(row); e != api.OK {
			t.Errorf("Add to a sum of %d: %v", size, e)
		}
		wantSum(t, "one row", s, 1, row...)
	}
	for _, size := range []int{-1, 4097, math.MinInt, math.MaxInt} {
		if s, e := xor.New(size); s != nil || e != api.ErrArg {
			t.Errorf("New(%d): %v, %v; want nil, %v", size, s, e, api.ErrArg)
		}
	}
}

func TestSumBehindEachAdd(t *testing.T) {
	for _, c := range shapes {
		if c.size > api.MaxPack {
			continue
		}
		s := sum(t, c.size)
		rows := mixedRows(c.count, c.size)
		for i, row := range rows {
			if e := s.Add(row); e != api.OK {
				t.Fatalf("Add: %v", e)
			}
			wantSum(t, "behind Add", s, i+1, odd(c.size, rows[:i+1]...)...)
		}
		s.Add(s.Value())
		wantSum(t, "its own value", s, c.count+1, make([]byte, c.size)...)
	}
}

func TestSumOfNoBytes(t *testing.T) {
	s := sum(t, 0)
	for i := range 4 {
		wantSum(t, "no bytes", s, i)
		if e := s.Add([][]byte{nil, {}}[i%2]); e != api.OK {
			t.Errorf("Add: %v", e)
		}
	}
	if e := s.Add([]byte{0}); e != api.ErrLength {
		t.Errorf("Add of a byte: %v", e)
	}
	wantSum(t, "no bytes", s, 4)
}

func TestAddOfAnotherLength(t *testing.T) {
	for _, size := range []int{1, 2, 128, 4096} {
		s := sum(t, size)
		first, second := mixed(size, 1), mixed(size, 2)
		for i, value := range [][]byte{make([]byte, size), first, odd(size, first, second)} {
			for _, other := range append(others(size), bytes.Repeat([]byte{255}, size+1), bytes.Repeat([]byte{255}, size-1)) {
				if e := s.Add(other); e != api.ErrLength {
					t.Errorf("%d bytes to a sum of %d: %v", len(other), size, e)
				}
				wantSum(t, "refused", s, i, value...)
			}
			if e := s.Add([][]byte{first, second, first}[i]); e != api.OK {
				t.Errorf("Add: %v", e)
			}
		}
		wantSum(t, "the first one twice", s, 3, second...)
	}
}

func TestSumsInTurn(t *testing.T) {
	a, b := sum(t, 3), sum(t, 2)
	for i := range 5 {
		a.Add([]byte{1, 0, byte(i)})
		wantSum(t, "the other, ahead", b, i, byte(i%2)*9, 0)
		b.Add([]byte{9, 0})
		wantSum(t, "the one", a, i+1, byte((i+1)%2), 0, []byte{0, 1, 3, 0, 4}[i])
		wantSum(t, "the other", b, i+1, byte((i+1)%2)*9, 0)
	}
	c, d := sum(t, 2), sum(t, 2) // of one size
	c.Add([]byte{1, 1})
	wantSum(t, "of one size", d, 0, 0, 0)
	d.Add([]byte{2, 2})
	wantSum(t, "of one size", c, 1, 1, 1)
}

// What Of and the like ask of sums inside stays there.
func TestSumsAreNotThoseInside(t *testing.T) {
	s := sum(t, 2)
	s.Add([]byte{1, 2})
	of(t, []byte{4, 4}, []byte{8, 8})
	xor.Even([]byte{1, 2})
	xor.Of([]byte{1}, []byte{1, 2})
	wantSum(t, "beside other calls", s, 1, 1, 2)
	wantRow(t, "Of beside a sum", of(t, []byte{4, 4}), api.OK, 4, 4)
}

func TestRowsWithParity(t *testing.T) {
	for _, c := range shapes {
		rows := mixedRows(c.count, c.size)
		all := append(rows, of(t, rows...))
		is, e := xor.Even(all...)
		wantEven(t, "rows and parity", is, e, true)
		for at := range min(len(all), 20) {
			b, e := xor.Missing(all, at)
			wantRow(t, "recomputed", b, e, all[at]...)
			lost := slices.Clone(all)
			lost[at] = nil
			b, e = xor.Missing(lost, at)
			wantRow(t, "recomputed without it", b, e, all[at]...)
		}
	}
}

func TestRowReplaced(t *testing.T) {
	for _, c := range shapes {
		rows := mixedRows(c.count, c.size)
		parity := of(t, rows...)
		for at := range min(len(rows), 20) {
			now := mixed(c.size, uint32(at))
			patched, e := xor.Patch(parity, rows[at], now)
			rows[at] = now
			wantRow(t, "patched parity", patched, e, of(t, rows...)...)
			parity = patched
		}
	}
}

func TestOtherOrder(t *testing.T) {
	rows := mixedRows(5, 40)
	want := of(t, rows...)
	for range rows {
		rows = append(rows[1:], rows[0])
		wantRow(t, "turned", of(t, rows...), api.OK, want...)
		swapped := slices.Clone(rows)
		swapped[1], swapped[3] = swapped[3], swapped[1]
		wantRow(t, "swapped", of(t, swapped...), api.OK, want...)
		s := sum(t, 40)
		for _, row := range swapped {
			s.Add(row)
		}
		wantSum(t, "swapped", s, 5, want...)
	}
	slices.Reverse(rows)
	wantRow(t, "reversed", of(t, rows...), api.OK, want...)
	for _, p := range [][3]int{{0, 1, 2}, {0, 2, 1}, {1, 0, 2}, {1, 2, 0}, {2, 0, 1}, {2, 1, 0}} {
		b, e := xor.Patch(rows[p[0]], rows[p[1]], rows[p[2]])
		wantRow(t, "Patch", b, e, odd(40, rows[:3]...)...)
	}
}

func TestEqualRows(t *testing.T) {
	rows := mixedRows(4, 21)
	want := of(t, rows...)
	row := mixed(21, 99)
	for i := range len(rows) + 1 {
		for j := range len(rows) + 2 {
			twice := slices.Insert(slices.Clone(rows), i, row)
			twice = slices.Insert(twice, j, slices.Clone(row))
			wantRow(t, "twice", of(t, twice...), api.OK, want...)
		}
	}
	wantRow(t, "only these", of(t, row, row), api.OK, make([]byte, 21)...)
	is, e := xor.Even(row, row)
	wantEven(t, "only these", is, e, true)
	is, e = xor.Even(row, row, row)
	wantEven(t, "thrice", is, e, false)
}

// The rows lie in one piece of memory, so that what is behind each one of them would be seen to change.
func TestRowsStay(t *testing.T) {
	backing := mixed(100, 12)
	before := slices.Clone(backing)
	rows := [][]byte{backing[:20], backing[20:40], backing[40:60], backing[60:80]}
	kept := cloneRows(rows)
	unlike := [][]byte{backing[:20], backing[20:40], backing[40:61]}
	xor.Of(rows...)
	xor.Of(unlike...)
	xor.Even(rows...)
	xor.Patch(rows[0], rows[1], rows[2])
	xor.Patch(rows[0], rows[1], unlike[2])
	xor.First(rows[0], rows[1])
	for at := -1; at < 5; at++ {
		xor.Missing(rows, at)
		xor.Missing(rows[:3], at)
		xor.Missing(unlike, at)
	}
	s := sum(t, 20)
	for _, row := range append(slices.Clone(rows), unlike...) {
		s.Add(row)
	}
	if !bytes.Equal(backing, before) || !sameRows(rows, kept) || len(unlike[2]) != 21 {
		t.Errorf("changed: % x; want % x", backing, before)
	}
}

func TestSumKeepsNoRow(t *testing.T) {
	s := sum(t, 2)
	row := []byte{1, 2}
	s.Add(row)
	row[0] = 99
	wantSum(t, "row changed", s, 1, 1, 2)
	s.Add([]byte{0, 1})
	if !bytes.Equal(row, []byte{99, 2}) {
		t.Errorf("row: % x", row)
	}
	wantSum(t, "one more", s, 2, 1, 3)
}

// scribble writes all over b and behind it.
func scribble(b []byte) {
	b = b[:cap(b)]
	for i := range b {
		b[i] = ^b[i]
	}
}

func TestResultsAreTheirOwners(t *testing.T) {
	calls := []func(rows [][]byte) ([]byte, api.Errno){
		func(rows [][]byte) ([]byte, api.Errno) { return xor.Of(rows...) },
		func(rows [][]byte) ([]byte, api.Errno) { return xor.Of(rows[0]) },
		func(rows [][]byte) ([]byte, api.Errno) { return xor.Missing(rows, 1) },
		func(rows [][]byte) ([]byte, api.Errno) { return xor.Missing(rows[:2], 0) },
		func(rows [][]byte) ([]byte, api.Errno) { return xor.Missing(rows[:2], 1) },
		func(rows [][]byte) ([]byte, api.Errno) { return xor.Patch(rows[0], rows[1], rows[2]) },
	}
	for i, call := range calls {
		rows := mixedRows(3, 24)
		kept := cloneRows(rows)
		first, _ := call(rows)
		want := slices.Clone(first)
		second, _ := call(rows)
		scribble(first)
		if !bytes.Equal(second, want) || !sameRows(rows, kept) {
			t.Errorf("call %d: what came out is not its owner's", i)
		}
		third, e := call(rows)
		wantRow(t, "once more", third, e, want...)
		scribble(rows[0])
		scribble(rows[1])
		wantRow(t, "rows changed", third, e, want...)
	}
}

func TestValuesAreTheirOwners(t *testing.T) {
	s := sum(t, 3)
	scribble(s.Value())
	wantSum(t, "none added", s, 0, 0, 0, 0)
	s.Add([]byte{1, 2, 3})
	first, second := s.Value(), s.Value()
	scribble(first)
	wantRow(t, "the second value", second, api.OK, 1, 2, 3)
	wantSum(t, "behind the first value", s, 1, 1, 2, 3)
	s.Add([]byte{1, 0, 0})
	wantRow(t, "the second value", second, api.OK, 1, 2, 3)
	_ = append(second, 9, 9, 9)
	wantSum(t, "behind the second value", s, 2, 0, 2, 3)
}

func TestErrorNumbers(t *testing.T) {
	if uint16(api.ErrArg) != 1 || uint16(api.ErrLength) != 4 {
		t.Errorf("ErrArg is %d, ErrLength is %d", uint16(api.ErrArg), uint16(api.ErrLength))
	}
}

func TestDocumentExamples(t *testing.T) {
	a, b := []byte{1, 2}, []byte{3, 0}
	wantRow(t, "example 1", of(t, a, b), api.OK, 2, 2)
	is, e := xor.Even(a, b, []byte{2, 2})
	wantEven(t, "example 1", is, e, true)
	row, e := xor.Missing([][]byte{a, b, {2, 2}}, 1)
	wantRow(t, "example 1", row, e, 3, 0)
	row, e = xor.Patch([]byte{2, 2}, b, []byte{255, 0})
	wantRow(t, "example 1", row, e, 0xfe, 2)
	wantRow(t, "example 1", of(t, a, []byte{255, 0}), api.OK, 0xfe, 2)
	row, e = xor.Of()
	wantNone(t, "example 2", row, e, api.ErrArg)
	row, e = xor.Of([]byte{1}, []byte{1, 2})
	wantNone(t, "example 2", row, e, api.ErrLength)
	wantRow(t, "example 2", of(t, a), api.OK, 1, 2)
	row, e = xor.Missing([][]byte{a}, 0)
	wantNone(t, "example 2", row, e, api.ErrArg)
	for _, c := range []struct {
		a, b []byte
		want int
	}{{a, []byte{1, 3}, 1}, {[]byte{1}, a, 1}, {[]byte{1}, []byte{1}, -1}} {
		if got := xor.First(c.a, c.b); got != c.want {
			t.Errorf("example 3: %d; want %d", got, c.want)
		}
	}
}
