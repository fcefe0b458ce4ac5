package record_test

import (
	"encoding/binary"
	"hash/crc32"
	"math/rand"
	"slices"
	"testing"

	"spindle/api"
	"spindle/record"
)

const (
	header = api.SectorHeader
	commit = api.SectorCommit
	check  = api.SectorCheck
)

// kinds are the three that a sector of the journal may have.
var kinds = []uint8{header, commit, check}

// The numbers at which an int or a uint64 ends, and where fewer bits of it would be a number that is valid.
var (
	wildInts  = []int{-1 << 63, -1<<63 + 1, -1<<32 + 1, -1 << 31, -1<<31 + 1, -65535, -255, -2, -1, 65536 + 1, 1 << 31, 1<<31 + 1, 1<<32 - 1, 1 << 32, 1<<32 + 1, 1<<63 - 1}
	wildWords = []uint64{1<<62 + 1, 1<<62 + 2, 1 << 63, 1<<63 + 1, 1<<64 - 1}
)

// The values of the three kinds in the tests: an ordinary one, and those in which each field is the least, and the greatest, that is valid.

func sampleHeader() api.Header {
	return api.Header{Epoch: 1, Seq: 2, Count: 2, Member: 3, Row: 5, Sum: 9}
}

func leastHeader() api.Header { return api.Header{Seq: 1, Count: 1} }

func greatestHeader() api.Header {
	return api.Header{Epoch: 1 << 62, Seq: 1 << 62, Index: 1022, Count: 1023, Member: 15, Row: 4095, Escaped: true, Sum: 1<<32 - 1}
}

func sampleCommit() api.Commit { return api.Commit{Epoch: 1, Seq: 2, Count: 3, Sum: 4} }

func leastCommit() api.Commit { return api.Commit{Seq: 1, Count: 1} }

func greatestCommit() api.Commit {
	return api.Commit{Epoch: 1 << 62, Seq: 1 << 62, Count: 1023, Sum: 1<<32 - 1}
}

func sampleCheck() api.Check { return api.Check{Epoch: 1, Seq: 2, Tail: 3} }

func leastCheck() api.Check { return api.Check{Seq: 1} }

func greatestCheck() api.Check { return api.Check{Epoch: 1 << 62, Seq: 1 << 62, Tail: 2047} }

// extremes has all of the above. A value is an api.Header, an api.Commit or an api.Check.
func extremes() []any {
	return []any{
		sampleHeader(), leastHeader(), greatestHeader(),
		sampleCommit(), leastCommit(), greatestCommit(),
		sampleCheck(), leastCheck(), greatestCheck(),
	}
}

// drawn is a value of each kind that is valid, by numbers at random.
func drawn(r *rand.Rand) []any {
	epoch, seq := r.Uint64()%(1<<62+1)>>r.Intn(62), 1+r.Uint64()%(1<<62)>>r.Intn(62)
	count := 1 + r.Intn(1023)
	return []any{
		api.Header{
			Epoch: epoch, Seq: seq,
			Index: r.Intn(count), Count: count, Member: r.Intn(16), Row: r.Intn(4096),
			Escaped: r.Intn(2) == 1, Sum: r.Uint32(),
		},
		api.Commit{Epoch: epoch, Seq: seq, Count: count, Sum: r.Uint32()},
		api.Check{Epoch: epoch, Seq: seq, Tail: r.Intn(2048)},
	}
}

// some are values that are valid, of all kinds.
func some() []any {
	l := extremes()
	r := rand.New(rand.NewSource(8))
	for range 300 {
		l = append(l, drawn(r)...)
	}
	return l
}

func kindOf(v any) uint8 {
	switch v.(type) {
	case api.Header:
		return header
	case api.Commit:
		return commit
	}
	return check
}

// nothing is what comes out beside an error.
func nothing(kind uint8) any {
	switch kind {
	case header:
		return api.Header{}
	case commit:
		return api.Commit{}
	}
	return api.Check{}
}

func encode(v any) ([]byte, api.Errno) {
	switch v := v.(type) {
	case api.Header:
		return record.EncodeHeader(v)
	case api.Commit:
		return record.EncodeCommit(v)
	}
	return record.EncodeCheck(v.(api.Check))
}

func decode(kind uint8, b []byte) (any, api.Errno) {
	switch kind {
	case header:
		return record.DecodeHeader(b)
	case commit:
		return record.DecodeCommit(b)
	}
	return record.DecodeCheck(b)
}

// laid lays the fields byte by byte, as the chapter's tables say, whether they are valid or not.
func laid(v any) []byte {
	b := make([]byte, 128)
	copy(b, "SPJL")
	b[4] = kindOf(v)
	word := func(at int, n uint64) { binary.LittleEndian.PutUint64(b[at:], n) }
	number := func(at, n int) { binary.LittleEndian.PutUint32(b[at:], uint32(n)) }
	switch v := v.(type) {
	case api.Header:
		word(8, v.Epoch)
		word(16, v.Seq)
		number(24, v.Index)
		number(28, v.Count)
		number(32, v.Member)
		number(36, v.Row)
		if v.Escaped {
			b[40] = 1
		}
		number(44, int(v.Sum))
	case api.Commit:
		word(8, v.Epoch)
		word(16, v.Seq)
		number(24, v.Count)
		number(28, int(v.Sum))
	case api.Check:
		word(8, v.Epoch)
		word(16, v.Seq)
		number(24, v.Tail)
	}
	return summed(b)
}

// summed is b with the right checksum.
func summed(b []byte) []byte {
	b = slices.Clone(b)
	binary.LittleEndian.PutUint32(b[124:], crc32.Checksum(b[:124], crc32.MakeTable(crc32.Castagnoli)))
	return b
}

// set is b with another byte at that place, the checksum left as it was.
func set(b []byte, at int, v byte) []byte {
	b = slices.Clone(b)
	b[at] = v
	return b
}

// wantBytes is about a value that is valid, and its encoding: both directions, and what the other calls say of it.
func wantBytes(t *testing.T, v any, want []byte) {
	t.Helper()
	if b, e := encode(v); !slices.Equal(b, want) || e != api.OK {
		t.Errorf("encoding %+v: % x, %v; want % x, OK", v, b, e, want)
	}
	wantDecoded(t, want, v)
	wantKind(t, want, kindOf(v))
	for _, kind := range kinds {
		if kind != kindOf(v) {
			wantRefused(t, kind, want, api.ErrRecordForm)
		}
	}
}

func wantValid(t *testing.T, v any) {
	t.Helper()
	wantBytes(t, v, laid(v))
}

// wantInvalid is about a value that is not valid: it is refused, and nothing comes out beside the error.
func wantInvalid(t *testing.T, v any) {
	t.Helper()
	if b, e := encode(v); len(b) != 0 || e != api.ErrRecordForm {
		t.Errorf("encoding %+v: % x, %v; want nothing, %v", v, b, e, api.ErrRecordForm)
	}
}

func wantDecoded(t *testing.T, b []byte, want any) {
	t.Helper()
	if v, e := decode(kindOf(want), b); v != want || e != api.OK {
		t.Errorf("decoding % x: %+v, %v; want %+v, OK", b, v, e, want)
	}
}

func wantRefused(t *testing.T, kind uint8, b []byte, want api.Errno) {
	t.Helper()
	if v, e := decode(kind, b); v != nothing(kind) || e != want {
		t.Errorf("decoding % x as kind %d: %+v, %v; want nothing, %v", b, kind, v, e, want)
	}
}

func wantKind(t *testing.T, b []byte, want uint8) {
	t.Helper()
	if kind := record.Kind(b); kind != want {
		t.Errorf("Kind(% x): %d; want %d", b, kind, want)
	}
}
