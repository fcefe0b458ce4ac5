package record_test

import (
	"math/rand"
	"slices"
	"testing"

	"spindle/api"
	"spindle/record"
)

// sector begins with that text, and has the rest from byte to byte, or zeros.
func sector(first string, rest byte) []byte {
	b := slices.Repeat([]byte{rest}, 128)
	copy(b, first)
	return b
}

// plain are sectors that are logged as they are.
func plain() [][]byte {
	l := [][]byte{sector("", 0), sector("", 255), sector("\x00\x00\x00\x00", 7), sector("\x00\x00\x00", 7), sector("\x00\x00\x00\x00SPJL", 0)}
	for _, first := range []string{"SPJ", "SPJ\x00", "SPJM", "SPSL", "SQJL", "TPJL", "spjl", "LJPS", "\x00PJL", "S\x00JL", "SP\x00L", "xSPJL", "SPSB\x01"} {
		l = append(l, sector(first, 0), sector(first, 255), sector(first, 'l'))
	}
	for at := range 4 {
		for bit := range 8 {
			b := sector("SPJL", 3)
			b[at] ^= 1 << bit
			l = append(l, b)
		}
	}
	r := rand.New(rand.NewSource(9))
	for range 300 {
		b := make([]byte, 128)
		r.Read(b[r.Intn(8):])
		l = append(l, b)
	}
	return l
}

// marked are sectors that begin with the magic number, the encodings of all kinds among them.
func marked() [][]byte {
	l := [][]byte{sector("SPJL", 0), sector("SPJL", 255), sector("SPJL", 'S'), sector("SPJLSPJL", 0), sector("SPJL\x04", 0)}
	for _, v := range some()[:30] {
		l = append(l, laid(v))
	}
	r := rand.New(rand.NewSource(10))
	for range 300 {
		b := sector("SPJL", 0)
		r.Read(b[4:])
		l = append(l, b)
	}
	return l
}

// blanked is b with four zeros at its beginning.
func blanked(b []byte) []byte { return append([]byte{0, 0, 0, 0}, b[4:]...) }

func wantEscape(t *testing.T, b, want []byte, escaped bool) {
	t.Helper()
	got, is, e := record.Escape(b)
	if !slices.Equal(got, want) || is != escaped || e != api.OK {
		t.Errorf("Escape(% x): % x, %v, %v; want % x, %v, OK", b, got, is, e, want, escaped)
	}
	wantKind(t, got, api.SectorOther)
	wantUnescape(t, got, is, b)
}

func wantUnescape(t *testing.T, b []byte, escaped bool, want []byte) {
	t.Helper()
	if got, e := record.Unescape(b, escaped); !slices.Equal(got, want) || e != api.OK {
		t.Errorf("Unescape(% x, %v): % x, %v; want % x, OK", b, escaped, got, e, want)
	}
}

func wantNotUnescaped(t *testing.T, b []byte, escaped bool, want api.Errno) {
	t.Helper()
	if got, e := record.Unescape(b, escaped); len(got) != 0 || e != want {
		t.Errorf("Unescape(% x, %v): % x, %v; want nothing, %v", b, escaped, got, e, want)
	}
}

func TestEscapePlain(t *testing.T) {
	for _, b := range plain() {
		wantEscape(t, b, b, false)
	}
}

func TestEscapeMarked(t *testing.T) {
	for _, b := range marked() {
		wantEscape(t, b, blanked(b), true)
	}
}

// Escaping what was logged does nothing more.
func TestEscapeTwice(t *testing.T) {
	for _, b := range append(plain(), marked()...) {
		once, _, e := record.Escape(b)
		if e != api.OK || len(once) != 128 || string(once[:4]) == "SPJL" {
			t.Fatalf("Escape(% x): % x, %v", b, once, e)
		}
		wantEscape(t, once, once, false)
	}
}

// What is no sector is refused, whatever it begins with, and whether it should be escaped or not.
func TestEscapeLengths(t *testing.T) {
	for _, first := range []string{"SPJL", "\x00\x00\x00\x00", "SPJ", "abcd"} {
		long := append(sector(first, 0), make([]byte, 128)...)
		for _, n := range []int{0, 1, 3, 4, 5, 124, 127, 129, 255, 256} {
			for _, b := range [][]byte{long[:n], slices.Clone(long[:n])} {
				if got, is, e := record.Escape(b); len(got) != 0 || is || e != api.ErrLength {
					t.Errorf("Escape(% x): % x, %v, %v", b, got, is, e)
				}
				wantNotUnescaped(t, b, false, api.ErrLength)
				wantNotUnescaped(t, b, true, api.ErrLength)
			}
		}
	}
	if got, is, e := record.Escape(nil); len(got) != 0 || is || e != api.ErrLength {
		t.Errorf("Escape(nil): % x, %v, %v", got, is, e)
	}
	wantNotUnescaped(t, nil, false, api.ErrLength)
	wantNotUnescaped(t, nil, true, api.ErrLength)
}

func TestUnescapePlain(t *testing.T) {
	for _, b := range plain() {
		wantUnescape(t, b, false, b)
		if string(b[:4]) == "\x00\x00\x00\x00" {
			wantUnescape(t, b, true, append([]byte("SPJL"), b[4:]...))
		} else {
			wantNotUnescaped(t, b, true, api.ErrRecordForm)
		}
	}
}

func TestUnescapeMarked(t *testing.T) {
	for _, b := range marked() {
		wantNotUnescaped(t, b, false, api.ErrRecordForm)
		wantNotUnescaped(t, b, true, api.ErrRecordForm)
		wantUnescape(t, blanked(b), true, b)
		wantUnescape(t, blanked(b), false, blanked(b))
	}
}

// Four zeros, any one of which is something else.
func TestUnescapeThreeZeros(t *testing.T) {
	for _, rest := range []byte{0, 1, 255} {
		for at := range 4 {
			for x := 1; x < 256; x++ {
				b := set(sector("\x00\x00\x00\x00", rest), at, byte(x))
				wantNotUnescaped(t, b, true, api.ErrRecordForm)
				wantUnescape(t, b, false, b)
			}
		}
	}
}

// What Unescape accepts is what Escape makes of its result.
func TestUnescapeThenEscape(t *testing.T) {
	for _, b := range append(plain(), marked()...) {
		for _, escaped := range []bool{false, true} {
			back, e := record.Unescape(b, escaped)
			if e == api.OK {
				wantEscape(t, back, b, escaped)
			}
		}
	}
}

func TestEscapeExamples(t *testing.T) {
	b := append([]byte("\x53\x50\x4a\x4c"), make([]byte, 124)...)
	zeros := make([]byte, 128)
	wantEscape(t, b, zeros, true)
	wantUnescape(t, zeros, true, b)
	wantUnescape(t, zeros, false, zeros)
	wantNotUnescaped(t, b, false, api.ErrRecordForm)
}
