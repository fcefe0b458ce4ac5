package super_test

import (
	"encoding/hex"
	"slices"
	"strings"
	"testing"

	"spindle/api"
	"spindle/super"
)

// written is a sector by its hexadecimal digits, with zeros up to the checksum.
func written(t *testing.T, digits string) []byte {
	t.Helper()
	b, err := hex.DecodeString(strings.ReplaceAll(digits, " ", ""))
	if err != nil || len(b) > 124 {
		t.Fatal(err, len(b))
	}
	return summed(append(b, make([]byte, 128-len(b))...))
}

// wantBytes holds both directions against bytes that were written by hand.
func wantBytes(t *testing.T, s api.Super, want []byte) {
	t.Helper()
	if b, e := super.Encode(s); !slices.Equal(b, want) || e != api.OK {
		t.Errorf("Encode(%+v): % x, %v; want % x, OK", s, b, e, want)
	}
	wantDecoded(t, want, s)
}

func TestEncodings(t *testing.T) {
	wantBytes(t, sample(), written(t, "53505342 01000000 0700000000000000 0300000000000000 0200000000000000 03 03 01 01 0200 0a00 0100 0000 010203"))
	wantBytes(t, least(), written(t, "53505342 01000000 0000000000000000 0100000000000000 0100000000000000 00 03 01 00 0100 0500 0000 0000 010101"))
	wantBytes(t, greatest(), written(t, "53505342 01000000 ffffffffffffffff 0000000000000040 0000000000000040 10 10 10 03 0001 0008 ff00 0000 02020202020202020202020202020203"))
	wantBytes(t, api.Super{
		ID:       0x1122334455667788,
		Events:   0x3132333435363738,
		Safe:     0x2122232425262728,
		Role:     4,
		Geometry: api.Geometry{Members: 5, Chunk: 6, Stripes: 255},
		Ring:     0x0123,
		Lost:     true,
		States:   []api.State{down, rebuild, up, up, down},
		Cursor:   0x76,
	}, written(t, "53505342 01000000 8877665544332211 3837363534333231 2827262524232221 04 05 06 02 ff00 2301 7600 0000 0203010102"))
}

// The checksum of the example, which was computed bit by bit.
func TestChecksum(t *testing.T) {
	want := []byte{0xfc, 0xe0, 0xe8, 0x42}
	b, e := super.Encode(sample())
	if e != api.OK || len(b) != 128 || !slices.Equal(b[124:], want) {
		t.Errorf("% x, %v; want the checksum % x", b, e, want)
	}
}

func TestFlags(t *testing.T) {
	for flags, c := range []struct{ lazy, lost bool }{{false, false}, {true, false}, {false, true}, {true, true}} {
		s := with(func(s *api.Super) { s.Lazy, s.Lost = c.lazy, c.lost })
		b := summed(set(laid(sample()), 35, byte(flags)))
		wantBytes(t, s, b)
	}
}

// Each field alone: at its bytes, the least significant one first, and nowhere else.
func TestFieldsAlone(t *testing.T) {
	base := greatest()
	base.States, base.Cursor = slices.Repeat([]api.State{up}, 16), 0
	rebuilding := greatest()
	for _, c := range []struct {
		base   api.Super
		change func(s *api.Super)
		at     int
		want   []byte
	}{
		{base, func(s *api.Super) { s.ID = 0x0102030405060708 }, 8, []byte{8, 7, 6, 5, 4, 3, 2, 1}},
		{base, func(s *api.Super) { s.Events = 1 << 62; s.Safe = 0x0102030405060708 }, 24, []byte{8, 7, 6, 5, 4, 3, 2, 1}},
		{base, func(s *api.Super) { s.Safe = 1 }, 24, []byte{1, 0, 0, 0, 0, 0, 0, 0}},
		{base, func(s *api.Super) { s.Role = 0 }, 32, []byte{0}},
		{base, func(s *api.Super) { s.Geometry.Chunk = 1 }, 34, []byte{1}},
		{base, func(s *api.Super) { s.Lazy = false }, 35, []byte{2}},
		{base, func(s *api.Super) { s.Lost = false }, 35, []byte{1}},
		{base, func(s *api.Super) { s.Geometry.Stripes = 1 }, 36, []byte{1, 0}},
		{base, func(s *api.Super) { s.Ring = 5 }, 38, []byte{5, 0}},
		{base, func(s *api.Super) { s.Ring = 0x0706 }, 38, []byte{6, 7}},
		{rebuilding, func(s *api.Super) { s.Cursor = 0 }, 40, []byte{0, 0}},
		{rebuilding, func(s *api.Super) { s.Cursor = 129 }, 40, []byte{129, 0}},
		{base, func(s *api.Super) { s.States[0] = down }, 44, []byte{2}},
		{base, func(s *api.Super) { s.States[15] = rebuild }, 59, []byte{3}},
	} {
		s := c.base
		s.States = slices.Clone(c.base.States)
		before, e := super.Encode(s)
		if e != api.OK {
			t.Fatalf("Encode(%+v): %v", s, e)
		}
		c.change(&s)
		want := slices.Clone(before)
		copy(want[c.at:], c.want)
		wantBytes(t, s, summed(want))
	}
}

// States lie behind one another, and zeros behind them, however many there are.
func TestStatesOfEachNumber(t *testing.T) {
	for members := 3; members <= 16; members++ {
		s := with(func(s *api.Super) {
			s.Geometry.Members, s.Role = members, members
			s.States = slices.Repeat([]api.State{up, down}, 8)[:members]
			s.States[members-1] = rebuild
		})
		b, e := super.Encode(s)
		if e != api.OK {
			t.Fatalf("Encode(%+v): %v", s, e)
		}
		for i := range members {
			if b[44+i] != byte(s.States[i]) {
				t.Errorf("%d members: state %d is %d; want %d", members, i, b[44+i], s.States[i])
			}
		}
		if i := slices.IndexFunc(b[44+members:124], func(x byte) bool { return x != 0 }); i >= 0 {
			t.Errorf("%d members: byte %d is not 0", members, 44+members+i)
		}
		wantDecoded(t, b, s)
	}
}

func TestEncodeDecode(t *testing.T) {
	for _, s := range some() {
		b, e := super.Encode(s)
		if e != api.OK {
			t.Fatalf("Encode(%+v): %v", s, e)
		}
		back, e := super.Decode(b)
		if !same(back, s) || e != api.OK {
			t.Fatalf("Decode(% x): %+v, %v; want %+v", b, back, e, s)
		}
		if again, e := super.Encode(back); !slices.Equal(again, b) || e != api.OK {
			t.Errorf("Encode(%+v): % x, %v; want % x", back, again, e, b)
		}
	}
}
