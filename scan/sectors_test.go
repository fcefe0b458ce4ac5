package scan_test

import (
	"encoding/hex"
	"math/rand"
	"slices"
	"strings"
	"testing"

	"spindle/api"
)

// written is a sector by its hexadecimal digits, with zeros up to the checksum.
func written(t *testing.T, digits string) []byte {
	t.Helper()
	b, err := hex.DecodeString(strings.ReplaceAll(digits, " ", ""))
	if err != nil || len(b) > 124 {
		t.Fatal(err, len(b))
	}
	return summed(append(b, make([]byte, 128-len(b))...))
}

// A batch byte by byte; the checksum of its data was computed bit by bit.
func TestSectorsByteByByte(t *testing.T) {
	l := wantSectors(t, 0x0102, api.Txn{Seq: 0x0304, Patches: []api.Patch{patch(5, 0x0607, filled(0)), patch(15, 4095, marked("SPJL", 0))}})
	if len(l) != 5 {
		t.Fatalf("%d sectors", len(l))
	}
	headers := [][]byte{
		written(t, "53504a4c 01000000 0201000000000000 0403000000000000 00000000 02000000 05000000 07060000 00000000 db642708"),
		written(t, "53504a4c 01000000 0201000000000000 0403000000000000 01000000 02000000 0f000000 ff0f0000 01000000 db642708"),
	}
	sum := sumOf(headers...)
	commit := written(t, "53504a4c 02000000 0201000000000000 0403000000000000 02000000"+hex.EncodeToString([]byte{byte(sum), byte(sum >> 8), byte(sum >> 16), byte(sum >> 24)}))
	for i, want := range [][]byte{headers[0], filled(0), headers[1], filled(0), commit} {
		if !slices.Equal(l[i], want) {
			t.Errorf("sector %d: % x; want % x", i, l[i], want)
		}
	}
}

func TestSectorsOfEachLength(t *testing.T) {
	for _, n := range []int{1, 2, 3, 4, 5, 7, 8, 15, 16, 17, 127, 128, 255, 256, 257, 511, 512, 1021, 1022, 1023} {
		if l := wantSectors(t, 7, batch(9, n)); len(l) != 2*n+1 {
			t.Errorf("%d sectors of %d patches", len(l), n)
		}
	}
}

func TestSectorsOfNoBatch(t *testing.T) {
	wantNoSectors(t, 1, api.Txn{}, api.ErrArg)
	wantNoSectors(t, 1, api.Txn{Seq: 1}, api.ErrArg)
	wantNoSectors(t, 1, api.Txn{Seq: 1, Patches: []api.Patch{}}, api.ErrArg)
	wantNoSectors(t, 1, api.Txn{Seq: 1, Patches: make([]api.Patch, 0, 9)}, api.ErrArg)
	for _, n := range []int{1024, 1025, 2047, 2048, 65536, 65537} {
		l := slices.Repeat([]api.Patch{patch(0, 0, filled('a'))}, n)
		wantNoSectors(t, 1, api.Txn{Seq: 1, Patches: l}, api.ErrArg)
	}
}

func TestSectorsAtTheEdges(t *testing.T) {
	for _, member := range []int{0, 1, 14, 15} {
		for _, row := range []int{0, 1, 255, 256, 4094, 4095} {
			wantSectors(t, 1, api.Txn{Seq: 2, Patches: []api.Patch{patch(member, row, filled('a'))}})
			wantSectors(t, 1, api.Txn{Seq: 2, Patches: []api.Patch{patch(3, 4, filled('a')), patch(member, row, filled('b')), patch(5, 6, filled('c'))}})
		}
	}
	for _, epoch := range []uint64{0, 1, 2, 1<<32 + 5, greatest - 1, greatest} {
		for _, seq := range []uint64{1, 2, 3, 1<<32 + 6, greatest - 1, greatest} {
			wantSectors(t, epoch, batch(seq, 1))
			wantSectors(t, epoch, batch(seq, 3))
		}
	}
}

// Neither a member nor a row need be another one than before, nor greater than the one before.
func TestSectorsKeepTheOrder(t *testing.T) {
	a, b, c := patch(3, 9, filled('a')), patch(3, 9, filled('b')), patch(2, 4, filled('c'))
	for _, l := range [][]api.Patch{{a, b, c}, {a, c, b}, {b, a, c}, {b, c, a}, {c, a, b}, {c, b, a}, {a, a}, {a, a, a}} {
		wantSectors(t, 1, api.Txn{Seq: 1, Patches: l})
	}
}

// What begins like the journal's own sectors is escaped, and nothing else is.
func TestSectorsEscape(t *testing.T) {
	own := []any{api.Header{Epoch: 1, Seq: 1, Count: 1}, api.Commit{Epoch: 1, Seq: 1, Count: 1}, api.Check{Epoch: 1, Seq: 1}}
	for _, v := range own {
		wantEscape(t, laid(v), true)
	}
	for _, text := range []string{"SPJL", "SPJL\x00", "SPJL\x01", "SPJL\x04", "SPJLSPJL"} {
		wantEscape(t, marked(text, 0), true)
		wantEscape(t, marked(text, 'x'), true)
	}
	for _, text := range []string{"", "S", "SP", "SPJ", "SPJK", "SPJM", "TPJL", "spjl", "\x00SPJL", "LJPS", "\x00\x00\x00\x00", "\x00\x00\x00\x00SPJL", "\x00\x00\x00"} {
		wantEscape(t, marked(text, 0), false)
		wantEscape(t, marked(text, 'x'), false)
	}
}

func wantEscape(t *testing.T, data []byte, escaped bool) {
	t.Helper()
	for i := range 3 {
		l := []api.Patch{patch(1, 2, filled('a')), patch(3, 4, filled(0)), patch(5, 6, marked("SPJL", 'b'))}
		l[i].Data = data
		got := wantSectors(t, 1, api.Txn{Seq: 1, Patches: l})
		logged := slices.Clone(data)
		flag := byte(0)
		if escaped {
			clear(logged[:4])
			flag = 1
		}
		if len(got) != 7 || got[2*i][40] != flag || !slices.Equal(got[2*i+1], logged) {
			t.Fatalf("patch %d of bytes % x: % x; want them to be escaped: %v", i, data, got, escaped)
		}
	}
}

func TestSectorsAtRandom(t *testing.T) {
	r := rand.New(rand.NewSource(11))
	for range 500 {
		x := batch(r.Uint64()%greatest+1, 1+r.Intn(12))
		wantSectors(t, r.Uint64()%(greatest+1)>>r.Intn(62), x)
	}
}
