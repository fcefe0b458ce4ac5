package record_test

import (
	"math/rand"
	"slices"
	"testing"

	"spindle/api"
)

func TestKindNumbers(t *testing.T) {
	if api.SectorOther != 0 || header != 1 || commit != 2 || check != 3 {
		t.Error(api.SectorOther, header, commit, check)
	}
}

func TestKindOfEncodings(t *testing.T) {
	for _, v := range some() {
		b, e := encode(v)
		if e != api.OK {
			t.Fatalf("encoding %+v: %v", v, e)
		}
		wantKind(t, b, kindOf(v))
	}
}

func TestKindLengths(t *testing.T) {
	wantKind(t, nil, 0)
	for _, kind := range kinds {
		long := append([]byte("SPJL"), kind)
		long = append(long, make([]byte, 1024)...)
		for n := range 300 {
			want := uint8(0)
			if n == 128 {
				want = kind
			}
			wantKind(t, slices.Clone(long[:n]), want)
			wantKind(t, long[:n], want)
		}
		wantKind(t, long[:256], 0)
		wantKind(t, long, 0)
	}
}

func TestKindOfZeros(t *testing.T) {
	wantKind(t, make([]byte, 128), 0)
	wantKind(t, set(make([]byte, 128), 4, 1), 0)
	wantKind(t, slices.Repeat([]byte{255}, 128), 0)
}

// Any one of the first four bytes, with all its other values.
func TestKindWithoutMagic(t *testing.T) {
	for _, v := range extremes() {
		b := laid(v)
		for at := range 4 {
			for x := range 256 {
				if byte(x) != b[at] {
					wantKind(t, set(b, at, byte(x)), 0)
					wantKind(t, summed(set(b, at, byte(x))), 0)
				}
			}
		}
	}
	// The magic number elsewhere, or the other way round.
	for _, first := range []string{"\x00SPJL\x01", "LJPS\x01", "spjl\x01", "SPSB\x01", "SPJ\x01", "\x01SPJL", "PJLS\x01"} {
		b := make([]byte, 128)
		copy(b, first)
		wantKind(t, b, 0)
	}
}

func TestKindOfByte4(t *testing.T) {
	for _, v := range extremes() {
		for x := range 256 {
			want := uint8(0)
			if x >= 1 && x <= 3 {
				want = uint8(x)
			}
			wantKind(t, set(laid(v), 4, byte(x)), want)
			wantKind(t, summed(set(laid(v), 4, byte(x))), want)
		}
	}
}

// The bytes from 5 on don't matter, one by one and all together.
func TestKindIgnoresTheRest(t *testing.T) {
	for _, kind := range kinds {
		b := make([]byte, 128)
		copy(b, "SPJL")
		b[4] = kind
		for at := 5; at < 128; at++ {
			for x := range 256 {
				wantKind(t, set(b, at, byte(x)), kind)
			}
		}
		r := rand.New(rand.NewSource(int64(kind)))
		for range 1000 {
			r.Read(b[5:])
			wantKind(t, b, kind)
		}
		wantKind(t, append(b[:5:5], slices.Repeat([]byte{255}, 123)...), kind)
	}
}
