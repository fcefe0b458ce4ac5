package super_test

import (
	"encoding/binary"
	"hash/crc32"
	"math/rand"
	"slices"
	"testing"

	"spindle/api"
	"spindle/super"
)

const (
	up      = api.StateUp
	down    = api.StateDown
	rebuild = api.StateRebuild
)

// The numbers at which an int or a uint64 ends, and where fewer bits of it would be a number that is valid.
var (
	wildInts  = []int{-1 << 63, -1<<63 + 3, -1<<32 + 3, -1<<31 + 3, -65533, -253, -3, -1, 259, 65536 + 3, 65536 + 10, 1<<31 + 3, 1<<32 + 3, 1<<63 - 1}
	wildWords = []uint64{1<<62 + 1, 1<<62 + 2, 1 << 63, 1<<63 + 3, 1<<64 - 1}
)

// sample is the superblock of the chapter's first example.
func sample() api.Super {
	return api.Super{
		ID:       7,
		Events:   3,
		Safe:     2,
		Role:     3,
		Geometry: api.Geometry{Members: 3, Chunk: 1, Stripes: 2},
		Ring:     10,
		Lazy:     true,
		States:   []api.State{up, down, rebuild},
		Cursor:   1,
	}
}

// with is the sample, in which something is otherwise.
func with(change func(s *api.Super)) api.Super {
	s := sample()
	change(&s)
	return s
}

// least has the least number that is valid in each field.
func least() api.Super {
	return api.Super{
		Events:   1,
		Safe:     1,
		Geometry: api.Geometry{Members: 3, Chunk: 1, Stripes: 1},
		Ring:     5,
		States:   []api.State{up, up, up},
	}
}

// greatest has the greatest number that is valid in each field.
func greatest() api.Super {
	return api.Super{
		ID:       1<<64 - 1,
		Events:   1 << 62,
		Safe:     1 << 62,
		Role:     16,
		Geometry: api.Geometry{Members: 16, Chunk: 16, Stripes: 256},
		Ring:     2048,
		Lazy:     true,
		Lost:     true,
		States:   append(slices.Repeat([]api.State{down}, 15), rebuild),
		Cursor:   255,
	}
}

// drawn is a superblock that is valid, by numbers at random.
func drawn(r *rand.Rand) api.Super {
	g := api.Geometry{Members: 3 + r.Intn(14), Chunk: 1 + r.Intn(16), Stripes: 1 + r.Intn(256)}
	events := 1 + r.Uint64()%(1<<62)>>r.Intn(62)
	s := api.Super{
		ID:       r.Uint64(),
		Events:   events,
		Safe:     1 + r.Uint64()%events,
		Role:     r.Intn(g.Members + 1),
		Geometry: g,
		Ring:     5 + r.Intn(2044),
		Lazy:     r.Intn(2) == 1,
		Lost:     r.Intn(2) == 1,
		States:   make([]api.State, g.Members),
	}
	for i := range s.States {
		s.States[i] = []api.State{up, down}[r.Intn(2)]
	}
	if r.Intn(2) == 1 {
		s.States[r.Intn(g.Members)] = rebuild
		s.Cursor = r.Intn(g.Stripes)
	}
	return s
}

// some are superblocks that are valid: the sample, the least and the greatest, and others.
func some() []api.Super {
	l := []api.Super{sample(), least(), greatest()}
	r := rand.New(rand.NewSource(7))
	for range 500 {
		l = append(l, drawn(r))
	}
	return l
}

// laid lays the fields byte by byte, as the chapter's table says, whether they are valid or not.
func laid(s api.Super) []byte {
	b := make([]byte, 128)
	copy(b, "SPSB\x01\x00\x00\x00")
	binary.LittleEndian.PutUint64(b[8:], s.ID)
	binary.LittleEndian.PutUint64(b[16:], s.Events)
	binary.LittleEndian.PutUint64(b[24:], s.Safe)
	b[32] = byte(s.Role)
	b[33] = byte(s.Geometry.Members)
	b[34] = byte(s.Geometry.Chunk)
	if s.Lazy {
		b[35] |= 1
	}
	if s.Lost {
		b[35] |= 2
	}
	binary.LittleEndian.PutUint16(b[36:], uint16(s.Geometry.Stripes))
	binary.LittleEndian.PutUint16(b[38:], uint16(s.Ring))
	binary.LittleEndian.PutUint16(b[40:], uint16(s.Cursor))
	for i, state := range s.States {
		b[44+i] = byte(state)
	}
	return summed(b)
}

// summed is b with the right checksum.
func summed(b []byte) []byte {
	b = slices.Clone(b)
	binary.LittleEndian.PutUint32(b[124:], crc32.Checksum(b[:124], crc32.MakeTable(crc32.Castagnoli)))
	return b
}

// set is b with another byte at that place, the checksum left as it was.
func set(b []byte, at int, v byte) []byte {
	b = slices.Clone(b)
	b[at] = v
	return b
}

// same says whether two superblocks are equal, field by field.
func same(a, b api.Super) bool {
	return a.ID == b.ID && a.Events == b.Events && a.Safe == b.Safe && a.Role == b.Role && a.Geometry == b.Geometry &&
		a.Ring == b.Ring && a.Lazy == b.Lazy && a.Lost == b.Lost && slices.Equal(a.States, b.States) && a.Cursor == b.Cursor
}

// wantValid is about a superblock that is valid: all calls take it, and its encoding.
func wantValid(t *testing.T, s api.Super) {
	t.Helper()
	if e := super.Check(s); e != api.OK {
		t.Errorf("Check(%+v): %v; want OK", s, e)
	}
	if b, e := super.Encode(s); !slices.Equal(b, laid(s)) || e != api.OK {
		t.Errorf("Encode(%+v): % x, %v; want % x, OK", s, b, e, laid(s))
	}
	wantDecoded(t, laid(s), s)
}

// wantInvalid is about a superblock that is not valid: it is refused, and nothing beside the error.
func wantInvalid(t *testing.T, s api.Super) {
	t.Helper()
	if e := super.Check(s); e != api.ErrSuperForm {
		t.Errorf("Check(%+v): %v; want %v", s, e, api.ErrSuperForm)
	}
	if b, e := super.Encode(s); len(b) != 0 || e != api.ErrSuperForm {
		t.Errorf("Encode(%+v): % x, %v; want nothing, %v", s, b, e, api.ErrSuperForm)
	}
}

func wantDecoded(t *testing.T, b []byte, want api.Super) {
	t.Helper()
	if s, e := super.Decode(b); !same(s, want) || e != api.OK {
		t.Errorf("Decode(% x): %+v, %v; want %+v, OK", b, s, e, want)
	}
}

func wantRefused(t *testing.T, b []byte, want api.Errno) {
	t.Helper()
	if s, e := super.Decode(b); !same(s, api.Super{}) || e != want {
		t.Errorf("Decode(% x): %+v, %v; want nothing, %v", b, s, e, want)
	}
}
