package record_test

import (
	"encoding/hex"
	"slices"
	"strings"
	"testing"

	"spindle/api"
)

// written is a sector by its hexadecimal digits, with zeros up to the checksum.
func written(t *testing.T, digits string) []byte {
	t.Helper()
	b, err := hex.DecodeString(strings.ReplaceAll(digits, " ", ""))
	if err != nil || len(b) > 124 {
		t.Fatal(err, len(b))
	}
	return summed(append(b, make([]byte, 128-len(b))...))
}

func TestEncodings(t *testing.T) {
	for _, c := range []struct {
		v      any
		digits string
	}{
		{sampleHeader(), "53504a4c 01000000 0100000000000000 0200000000000000 00000000 02000000 03000000 05000000 00000000 09000000"},
		{leastHeader(), "53504a4c 01000000 0000000000000000 0100000000000000 00000000 01000000 00000000 00000000 00000000 00000000"},
		{greatestHeader(), "53504a4c 01000000 0000000000000040 0000000000000040 fe030000 ff030000 0f000000 ff0f0000 01000000 ffffffff"},
		{api.Header{
			Epoch: 0x1122334455667788, Seq: 0x3132333435363738,
			Index: 0x0102, Count: 0x0203, Member: 7, Row: 0x0a0b, Escaped: true, Sum: 0xc1c2c3c4,
		}, "53504a4c 01000000 8877665544332211 3837363534333231 02010000 03020000 07000000 0b0a0000 01000000 c4c3c2c1"},
		{sampleCommit(), "53504a4c 02000000 0100000000000000 0200000000000000 03000000 04000000"},
		{leastCommit(), "53504a4c 02000000 0000000000000000 0100000000000000 01000000 00000000"},
		{greatestCommit(), "53504a4c 02000000 0000000000000040 0000000000000040 ff030000 ffffffff"},
		{api.Commit{
			Epoch: 0x1122334455667788, Seq: 0x3132333435363738, Count: 0x0203, Sum: 0xc1c2c3c4,
		}, "53504a4c 02000000 8877665544332211 3837363534333231 03020000 c4c3c2c1"},
		{sampleCheck(), "53504a4c 03000000 0100000000000000 0200000000000000 03000000"},
		{leastCheck(), "53504a4c 03000000 0000000000000000 0100000000000000 00000000"},
		{greatestCheck(), "53504a4c 03000000 0000000000000040 0000000000000040 ff070000"},
		{api.Check{Epoch: 0x1122334455667788, Seq: 0x3132333435363738, Tail: 0x0605},
			"53504a4c 03000000 8877665544332211 3837363534333231 05060000"},
	} {
		wantBytes(t, c.v, written(t, c.digits))
	}
}

// Checksums that were computed bit by bit.
func TestChecksums(t *testing.T) {
	for _, c := range []struct {
		v    any
		want []byte
	}{
		{sampleHeader(), []byte{0x21, 0x4b, 0x1a, 0x13}},
		{sampleCommit(), []byte{0x6c, 0xca, 0x54, 0xcd}},
		{api.Check{Epoch: 1 << 62, Seq: 1, Tail: 2047}, []byte{0x90, 0x94, 0xba, 0xe9}},
	} {
		if b, e := encode(c.v); e != api.OK || len(b) != 128 || !slices.Equal(b[124:], c.want) {
			t.Errorf("%+v: % x, %v; want the checksum % x", c.v, b, e, c.want)
		}
	}
}

// Each field alone: at its bytes, the least significant one first, and nowhere else.
func TestFieldsAlone(t *testing.T) {
	h, c, k := leastHeader(), leastCommit(), leastCheck()
	h.Count = 1023
	for _, c := range []struct {
		base, v any
		at      int
		want    []byte
	}{
		{h, with(h, func(h *api.Header) { h.Epoch = 0x0102030405060708 }), 8, []byte{8, 7, 6, 5, 4, 3, 2, 1}},
		{h, with(h, func(h *api.Header) { h.Seq = 0x0102030405060708 }), 16, []byte{8, 7, 6, 5, 4, 3, 2, 1}},
		{h, with(h, func(h *api.Header) { h.Index = 0x0302 }), 24, []byte{2, 3, 0, 0}},
		{h, with(h, func(h *api.Header) { h.Count = 0x0302 }), 28, []byte{2, 3, 0, 0}},
		{h, with(h, func(h *api.Header) { h.Member = 9 }), 32, []byte{9, 0, 0, 0}},
		{h, with(h, func(h *api.Header) { h.Row = 0x0708 }), 36, []byte{8, 7, 0, 0}},
		{h, with(h, func(h *api.Header) { h.Escaped = true }), 40, []byte{1, 0, 0, 0}},
		{h, with(h, func(h *api.Header) { h.Sum = 0x81020384 }), 44, []byte{0x84, 3, 2, 0x81}},
		{c, with(c, func(c *api.Commit) { c.Epoch = 0x0102030405060708 }), 8, []byte{8, 7, 6, 5, 4, 3, 2, 1}},
		{c, with(c, func(c *api.Commit) { c.Seq = 0x0102030405060708 }), 16, []byte{8, 7, 6, 5, 4, 3, 2, 1}},
		{c, with(c, func(c *api.Commit) { c.Count = 0x0302 }), 24, []byte{2, 3, 0, 0}},
		{c, with(c, func(c *api.Commit) { c.Sum = 0x81020384 }), 28, []byte{0x84, 3, 2, 0x81}},
		{k, with(k, func(k *api.Check) { k.Epoch = 0x0102030405060708 }), 8, []byte{8, 7, 6, 5, 4, 3, 2, 1}},
		{k, with(k, func(k *api.Check) { k.Seq = 0x0102030405060708 }), 16, []byte{8, 7, 6, 5, 4, 3, 2, 1}},
		{k, with(k, func(k *api.Check) { k.Tail = 0x0706 }), 24, []byte{6, 7, 0, 0}},
	} {
		want, e := encode(c.base)
		if e != api.OK {
			t.Fatalf("encoding %+v: %v", c.base, e)
		}
		copy(want[c.at:], c.want)
		wantBytes(t, c.v, summed(want))
	}
}

func TestEncodeDecode(t *testing.T) {
	for _, v := range some() {
		wantValid(t, v)
		b, e := encode(v)
		if e != api.OK {
			t.Fatalf("encoding %+v: %v", v, e)
		}
		back, e := decode(kindOf(v), b)
		if back != v || e != api.OK {
			t.Fatalf("decoding % x: %+v, %v; want %+v", b, back, e, v)
		}
		if again, e := encode(back); !slices.Equal(again, b) || e != api.OK {
			t.Errorf("encoding %+v: % x, %v; want % x", back, again, e, b)
		}
	}
}

func TestDocumentExamples(t *testing.T) {
	b := written(t, "53504a4c 01000000 0100000000000000 0200000000000000 00000000 02000000 03000000 05000000 00000000 09000000")
	wantBytes(t, api.Header{Epoch: 1, Seq: 2, Index: 0, Count: 2, Member: 3, Row: 5, Sum: 9}, b)
	wantKind(t, make([]byte, 128), 0)
	wantKind(t, b, 1)
	wantRefused(t, commit, b, api.ErrRecordForm)
	wantRefused(t, header, set(b, 40, 2), api.ErrRecordSum)
	wantRefused(t, header, summed(set(b, 40, 2)), api.ErrRecordForm)
	wantInvalid(t, with(sampleHeader(), func(h *api.Header) { h.Index = 2 }))
	wantInvalid(t, with(sampleHeader(), func(h *api.Header) { h.Seq = 0 }))
	wantRefused(t, check, laid(sampleCheck())[:127], api.ErrLength)
}

func TestErrorNumbers(t *testing.T) {
	for e, want := range map[api.Errno]uint16{api.ErrLength: 4, api.ErrRecordForm: 80, api.ErrRecordSum: 81} {
		if uint16(e) != want {
			t.Errorf("%v is %d", e, want)
		}
	}
}
