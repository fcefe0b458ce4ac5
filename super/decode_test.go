package super_test

import (
	"math/rand"
	"slices"
	"testing"

	"spindle/api"
	"spindle/super"
)

func TestDecodeLengths(t *testing.T) {
	long := append(laid(sample()), laid(sample())...)
	for _, n := range []int{0, 1, 4, 8, 64, 124, 127, 129, 132, 255, 256} {
		wantRefused(t, long[:n], api.ErrLength)
		wantRefused(t, make([]byte, n), api.ErrLength)
		wantRefused(t, slices.Clone(long[:n]), api.ErrLength)
	}
	wantRefused(t, nil, api.ErrLength)
	wantDecoded(t, long[:128], sample())
	wantDecoded(t, long[128:], sample())
}

func TestDecodeZeros(t *testing.T) {
	wantRefused(t, make([]byte, 128), api.ErrSuperForm)
	wantRefused(t, summed(make([]byte, 128)), api.ErrSuperForm)
	wantRefused(t, slices.Repeat([]byte{255}, 128), api.ErrSuperForm)
}

func TestDecodeExample(t *testing.T) {
	b := set(laid(sample()), 35, 5)
	wantRefused(t, b, api.ErrSuperSum)
	wantRefused(t, summed(b), api.ErrSuperForm)
}

// All other values of each byte, the checksum left as it was.
func TestDecodeChangedByte(t *testing.T) {
	for _, s := range []api.Super{sample(), least(), greatest()} {
		b := laid(s)
		for at, was := range b {
			want := api.ErrSuperSum
			if at < 8 {
				want = api.ErrSuperForm
			}
			for v := range 256 {
				if byte(v) != was {
					wantRefused(t, set(b, at, byte(v)), want)
				}
			}
		}
	}
}

// span is the values of a byte that leave the sample valid.
type span struct{ least, most int }

// spansOfSample has those of each byte up to the checksum, while the others are as they were.
func spansOfSample() []span {
	spans := make([]span, 124)
	for at, b := range laid(sample())[:124] {
		spans[at] = span{int(b), int(b)}
	}
	for at := 8; at <= 22; at++ {
		spans[at] = span{0, 255} // ID, and Events up to its greatest byte
	}
	spans[16] = span{2, 255} // not less than Safe
	spans[23] = span{0, 63}
	spans[24] = span{1, 3}
	spans[32] = span{0, 3}
	spans[34] = span{1, 16}
	spans[35] = span{0, 3}
	spans[36] = span{2, 255} // more than the Cursor
	spans[38] = span{5, 255}
	spans[39] = span{0, 7}
	spans[40] = span{0, 1}
	spans[44], spans[45] = span{1, 2}, span{1, 2} // only one may be rebuilt
	return spans
}

// All values of each byte, the checksum made right.
func TestDecodeChangedByteWithRightSum(t *testing.T) {
	b := laid(sample())
	for at, span := range spansOfSample() {
		for v := range 256 {
			changed := summed(set(b, at, byte(v)))
			if v < span.least || v > span.most {
				wantRefused(t, changed, api.ErrSuperForm)
				continue
			}
			s, e := super.Decode(changed)
			if e != api.OK {
				t.Errorf("byte %d is %d: %v", at, v, e)
			}
			if !slices.Equal(laid(s), changed) {
				t.Errorf("byte %d is %d: %+v, which is % x", at, v, s, laid(s))
			}
		}
	}
}

// The bytes that are zeros in every encoding, and those behind the States.
func TestDecodeZerosThatAreNot(t *testing.T) {
	for members := 3; members <= 16; members++ {
		s := greatest()
		s.Geometry.Members, s.Role, s.States, s.Cursor = members, 0, slices.Repeat([]api.State{up}, members), 0
		b := laid(s)
		wantDecoded(t, b, s)
		for at := 42; at < 124; at++ {
			if at >= 44 && at < 44+members {
				continue
			}
			for _, v := range []byte{1, 2, 3, 4, 128, 255} {
				wantRefused(t, summed(set(b, at, v)), api.ErrSuperForm)
			}
		}
	}
}

func TestDecodeFlags(t *testing.T) {
	for _, s := range []api.Super{sample(), least(), greatest()} {
		b := laid(s)
		for v := 4; v < 256; v++ {
			wantRefused(t, summed(set(b, 35, byte(v))), api.ErrSuperForm)
		}
	}
}

// Encodings, with a right checksum, of what isn't valid.
func TestDecodeInvalid(t *testing.T) {
	states := func(l ...api.State) func(s *api.Super) {
		return func(s *api.Super) { s.States = l }
	}
	for _, change := range []func(s *api.Super){
		func(s *api.Super) { s.Geometry.Members, s.Role, s.States, s.Cursor = 2, 0, s.States[:2], 0 },
		func(s *api.Super) { s.Geometry.Members, s.States = 4, append(s.States, 0) },
		func(s *api.Super) { s.Geometry.Members = 2 },
		func(s *api.Super) { s.Geometry.Members = 4 },
		func(s *api.Super) {
			s.Geometry.Members, s.States = 17, append(slices.Repeat([]api.State{up}, 16), rebuild)
		},
		func(s *api.Super) { s.Geometry.Members, s.States = 17, slices.Repeat([]api.State{up}, 16) },
		func(s *api.Super) { s.Geometry.Members, s.States = 255, slices.Repeat([]api.State{up}, 16) },
		func(s *api.Super) { s.Geometry.Members, s.Role, s.States, s.Cursor = 0, 0, nil, 0 },
		func(s *api.Super) { s.Geometry.Chunk = 0 },
		func(s *api.Super) { s.Geometry.Chunk = 17 },
		func(s *api.Super) { s.Geometry.Stripes, s.States, s.Cursor = 0, []api.State{up, up, up}, 0 },
		func(s *api.Super) { s.Geometry.Stripes = 257 },
		func(s *api.Super) { s.Geometry.Stripes = 65535 },
		func(s *api.Super) { s.Events, s.Safe = 0, 0 },
		func(s *api.Super) { s.Events = 0 },
		func(s *api.Super) { s.Events = 1<<62 + 1 },
		func(s *api.Super) { s.Events, s.Safe = 1<<62+1, 1<<62+1 },
		func(s *api.Super) { s.Events = 1<<64 - 1 },
		func(s *api.Super) { s.Safe = 0 },
		func(s *api.Super) { s.Safe = 4 },
		func(s *api.Super) { s.Safe = 1<<64 - 1 },
		func(s *api.Super) { s.Role = 4 },
		func(s *api.Super) { s.Role = 255 },
		func(s *api.Super) { s.Ring = 4 },
		func(s *api.Super) { s.Ring = 0 },
		func(s *api.Super) { s.Ring = 2049 },
		func(s *api.Super) { s.Ring = 65535 },
		func(s *api.Super) { s.Cursor = 2 },
		func(s *api.Super) { s.Cursor = 256 },
		func(s *api.Super) { s.Cursor = 65535 },
		states(up, down), states(up, down, rebuild, up), states(up, down, up), states(), states(rebuild, up, rebuild),
		states(up, 0, rebuild), states(up, 4, rebuild), states(up, 255, rebuild), states(up, rebuild, 0), states(0, up, rebuild),
	} {
		wantRefused(t, laid(with(change)), api.ErrSuperForm)
	}
}

// What is named first is told, where several things are wrong.
func TestDecodeOrder(t *testing.T) {
	good := laid(sample())
	marked, flagged := set(good, 0, 'X'), set(good, 35, 4)
	for _, c := range []struct {
		b    []byte
		want api.Errno
	}{
		{marked[:127], api.ErrLength},
		{append(slices.Clone(marked), 0), api.ErrLength},
		{flagged[:127], api.ErrLength},
		{append(summed(flagged), 0), api.ErrLength},
		{marked, api.ErrSuperForm},
		{summed(marked), api.ErrSuperForm},
		{set(flagged, 7, 1), api.ErrSuperForm},
		{summed(set(flagged, 7, 1)), api.ErrSuperForm},
		{flagged, api.ErrSuperSum},
		{set(good, 123, 1), api.ErrSuperSum},
		{set(good, 42, 1), api.ErrSuperSum},
		{set(flagged, 127, ^flagged[127]), api.ErrSuperSum},
		{set(good, 33, 255), api.ErrSuperSum},
		{summed(flagged), api.ErrSuperForm},
		{good, api.OK},
	} {
		if s, e := super.Decode(c.b); e != c.want || e != api.OK && !same(s, api.Super{}) {
			t.Errorf("Decode(% x): %+v, %v; want %v", c.b, s, e, c.want)
		}
	}
}

// Whatever 128 bytes: an error, or a superblock that they are the encoding of.
func TestDecodeAnything(t *testing.T) {
	r := rand.New(rand.NewSource(1))
	for range 20000 {
		b := laid(drawn(r))
		for range r.Intn(4) {
			b[8+r.Intn(116)] = byte(r.Intn(256) >> r.Intn(8))
		}
		if r.Intn(8) == 0 {
			r.Read(b[8:124])
		}
		b = summed(b)
		s, e := super.Decode(b)
		if e == api.OK {
			wantValid(t, s)
		}
		if e == api.OK && !slices.Equal(laid(s), b) || e != api.OK && (e != api.ErrSuperForm || !same(s, api.Super{})) {
			t.Fatalf("Decode(% x): %+v, %v", b, s, e)
		}
	}
}

// flip turns a bit; they are counted from the lowest one of byte 0 on.
func flip(b []byte, bit int) { b[bit/8] ^= 1 << (bit % 8) }

// wantBurstRefused turns the first and the last one of some bits, and some in between.
func wantBurstRefused(t *testing.T, good []byte, first, bits int, between uint32) {
	t.Helper()
	b := slices.Clone(good)
	flip(b, first)
	for i := 1; i < bits-1; i++ {
		if between>>i&1 == 1 {
			flip(b, first+i)
		}
	}
	if bits > 1 {
		flip(b, first+bits-1)
	}
	want := api.ErrSuperSum
	if !slices.Equal(b[:8], good[:8]) {
		want = api.ErrSuperForm
	}
	wantRefused(t, b, want)
}

func TestBurstsAreRefused(t *testing.T) {
	r := rand.New(rand.NewSource(32))
	for _, s := range []api.Super{sample(), greatest()} {
		good := laid(s)
		for bits := 1; bits <= 32; bits++ {
			for first := 0; first+bits <= 8*128; first++ {
				for _, between := range []uint32{0, 1<<32 - 1, r.Uint32()} {
					wantBurstRefused(t, good, first, bits, between)
				}
			}
		}
	}
}
