package scan_test

import (
	"encoding/binary"
	"math/rand"
	"slices"
	"strings"
	"testing"

	"spindle/api"
)

func number(b []byte, at int) int { return int(binary.LittleEndian.Uint32(b[at:])) }

func word(b []byte, at int) uint64 { return binary.LittleEndian.Uint64(b[at:]) }

// plainHeader is the header that a sector has: one with a number of 0, if it has none.
func plainHeader(b []byte) api.Header {
	h := api.Header{
		Epoch: word(b, 8), Seq: word(b, 16), Index: number(b, 24), Count: number(b, 28),
		Member: number(b, 32), Row: number(b, 36), Escaped: b[40] == 1, Sum: uint32(number(b, 44)),
	}
	valid := h.Count >= 1 && h.Count <= 1023 && h.Index < h.Count && h.Member < 16 && h.Row < 4096 && h.Epoch <= greatest && h.Seq <= greatest
	if !valid || !slices.Equal(laid(h), b) {
		return api.Header{}
	}
	return h
}

// plainBatch is the batch that stands at the beginning of some sectors, if it is complete.
func plainBatch(sectors [][]byte, epoch, seq uint64) (api.Txn, bool) {
	first := plainHeader(sectors[0])
	n := first.Count
	if 2*n+1 > len(sectors) {
		return api.Txn{}, false
	}
	t := api.Txn{Seq: seq}
	var headers []byte
	for i := range n {
		h, logged := plainHeader(sectors[2*i]), sectors[2*i+1]
		own := strings.HasPrefix(string(logged), "SPJL")
		blank := strings.HasPrefix(string(logged), "\x00\x00\x00\x00")
		if h.Epoch != epoch || h.Seq != seq || h.Index != i || h.Count != n || h.Sum != sumOf(logged) || own || h.Escaped && !blank {
			return api.Txn{}, false
		}
		data := slices.Clone(logged)
		if h.Escaped {
			copy(data, "SPJL")
		}
		t.Patches = append(t.Patches, patch(h.Member, h.Row, data))
		headers = append(headers, sectors[2*i]...)
	}
	commit := laid(api.Commit{Epoch: epoch, Seq: seq, Count: n, Sum: sumOf(headers)})
	return t, n > 0 && slices.Equal(sectors[2*n], commit)
}

// plainOf is what is found in a ring: all that is there is turned into a list that begins at the tail, and batches are taken from it.
func plainOf(ring []byte, c api.Check) api.Found {
	left := slices.Collect(slices.Chunk(slices.Concat(ring[c.Tail*128:], ring[:c.Tail*128]), 128))
	f := api.Found{Next: c.Seq, Head: c.Tail}
	for len(left) > 0 && f.Next <= greatest {
		t, complete := plainBatch(left, c.Epoch, f.Next)
		if !complete {
			break
		}
		n := 2*len(t.Patches) + 1
		left = left[n:]
		f.Txns = append(f.Txns, t)
		f.Next++
		f.Used += n
		f.Head = (f.Head + n) % (len(ring) / 128)
	}
	return f
}

// used are rings in which nothing counts, or no more: with older batches, those of another epoch, and the checkpoint's number in headers alone.
func used(places int, c api.Check) [][]byte {
	older, other := c, c
	older.Seq -= 900
	other.Epoch ^= 1
	lengths := slices.Repeat([]int{1}, places/3)
	return append(empties(places),
		storied(places, older, lengths...).ring,
		storied(places, other, lengths...).ring,
		slices.Repeat(laid(api.Header{Epoch: c.Epoch, Seq: c.Seq, Count: 1}), places),
		slices.Repeat(laid(api.Commit{Epoch: c.Epoch, Seq: c.Seq, Count: 1}), places),
	)
}

// drawn is a batch at random of no more than so many patches.
func drawn(r *rand.Rand, seq uint64, most int) api.Txn {
	x := api.Txn{Seq: seq}
	for range 1 + r.Intn(most) {
		x.Patches = append(x.Patches, patch(r.Intn(16), r.Intn(4096), data(r)))
	}
	return x
}

// wantRound lays what Sectors answers into a ring until it is full: at each sector, exactly the batches that are there are found.
func wantRound(t *testing.T, r *rand.Rand, ring []byte, c api.Check) {
	t.Helper()
	h := history{ring: ring, check: c}
	places, n := len(ring)/128, 0
	for left := places; left >= 3; left = places - h.used(n) {
		x := drawn(r, c.Seq+uint64(n), min(6, (left-1)/2))
		for i, b := range wantSectors(t, c.Epoch, x) {
			h.wantFirst(t, n)
			lay(ring, c.Tail+places-left+i, b)
		}
		h.txns = append(h.txns, x)
		n++
		h.wantFirst(t, n)
	}
}

// What Sectors answers, laid in from any place on, is found again, whatever else the ring contains.
func TestWhatIsLaidIsFound(t *testing.T) {
	r := rand.New(rand.NewSource(11))
	for range 20 {
		places := 5 + r.Intn(30)
		c := api.Check{Epoch: r.Uint64() % greatest, Seq: 1000 + r.Uint64()%(greatest-2000), Tail: r.Intn(places)}
		for _, ring := range used(places, c) {
			wantRound(t, r, ring, c)
		}
	}
	for range 3 {
		places := 1500 + r.Intn(549)
		c := api.Check{Epoch: r.Uint64() % greatest, Seq: 1000, Tail: r.Intn(places)}
		x := drawn(r, 1000, (places-1)/2)
		for _, ring := range used(places, c) {
			lay(ring, c.Tail, wantSectors(t, c.Epoch, x)...)
			history{ring, c, []api.Txn{x}}.wantFirst(t, 1)
		}
	}
}

// shuffled is a ring in which batches of few epochs and numbers lie anywhere, one over the other, some of them changed.
func shuffled(r *rand.Rand, places int) []byte {
	ring := make([]byte, places*128)
	at, seq := 0, uint64(1)
	for range 2 + r.Intn(12) {
		if r.Intn(3) == 0 {
			at, seq = r.Intn(places), 1+uint64(r.Intn(4))
		}
		sectors := drafted(1+uint64(r.Intn(8)/7), batch(seq, 1+r.Intn(3))).sectors()
		lay(ring, at, sectors...)
		at, seq = at+len(sectors), seq+1
	}
	for range r.Intn(3) {
		ring[r.Intn(len(ring))] ^= 1 << r.Intn(8)
	}
	for range r.Intn(2) {
		from, to := r.Intn(places)*128, r.Intn(places)*128
		copy(ring[to:to+128], slices.Clone(ring[from:from+128]))
	}
	return ring
}

func TestOfShuffledRings(t *testing.T) {
	r := rand.New(rand.NewSource(12))
	counts := map[int]int{}
	for range 150 {
		places := 5 + r.Intn(25)
		ring := shuffled(r, places)
		for tail := range places {
			for _, epoch := range []uint64{1, 2} {
				for seq := uint64(1); seq < 6; seq++ {
					c := api.Check{Epoch: epoch, Seq: seq, Tail: tail}
					want := plainOf(ring, c)
					counts[len(want.Txns)]++
					wantFound(t, ring, c, want)
				}
			}
		}
	}
	for n := range 4 {
		if counts[n] < 5 {
			t.Errorf("%d batches were found just %d times", n, counts[n])
		}
	}
}

// The same is found again, and by rings that are alike, whatever was asked for in between.
func TestOfTwice(t *testing.T) {
	a := storied(30, api.Check{Epoch: 1, Seq: 1, Tail: 25}, 3, 1, 5)
	b := storied(41, api.Check{Epoch: 2, Seq: 8, Tail: 40}, 1, 1)
	for range 3 {
		a.wantFirst(t, 3)
		b.wantFirst(t, 2)
		wantNone(t, b.ring, api.Check{Epoch: 1, Seq: 1, Tail: 25})
		wantNoScan(t, a.ring[:129], a.check)
		wantNoSectors(t, 1, api.Txn{}, api.ErrArg)
		wantSectors(t, 2, b.txns[0])
		history{slices.Clone(a.ring), a.check, a.txns}.wantFirst(t, 3)
	}
}
