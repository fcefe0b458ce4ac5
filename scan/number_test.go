package scan_test

import (
	"testing"

	"spindle/api"
)

// moved is a batch with another number.
func moved(t api.Txn, seq uint64) api.Txn {
	t.Seq = seq
	return t
}

// wantWholeNotFound lays a whole batch where the second one is to be: it is not found.
func wantWholeNotFound(t *testing.T, epoch, seq uint64, n int) {
	t.Helper()
	for tail := range 12 {
		h := storied(12, api.Check{Epoch: 6, Seq: 40, Tail: tail}, 1, n, 1)
		for i, b := range drafted(epoch, moved(h.txns[1], seq)).sectors() {
			h = h.with(3+i, b)
		}
		h.wantFirst(t, 1)
	}
}

func TestOfWholeBatchesOfOtherNumbers(t *testing.T) {
	for _, n := range []int{1, 2} {
		for _, seq := range []uint64{0, 1, 2, 39, 40, 42, 43, 297, 41 + 1<<16, 41 + 1<<32, 41 + 1<<61, greatest, greatest + 41, 1<<63 + 41, 1<<64 - 1} {
			wantWholeNotFound(t, 6, seq, n)
		}
		for _, epoch := range []uint64{0, 1, 5, 7, 6 + 1<<8, 6 + 1<<32, 6 + 1<<61, greatest, greatest + 6, 1<<63 + 6, 1<<64 - 1} {
			wantWholeNotFound(t, epoch, 41, n)
		}
	}
}

// Asked for with another epoch, or from another number on, a ring has none of its batches.
func TestOfOtherChecks(t *testing.T) {
	h := storied(20, api.Check{Epoch: 6, Seq: 40, Tail: 17}, 2, 1, 3)
	h.wantFirst(t, 3)
	for _, epoch := range []uint64{0, 1, 5, 7, 6 + 1<<32, greatest} {
		wantNone(t, h.ring, api.Check{Epoch: epoch, Seq: 40, Tail: 17})
	}
	for _, seq := range []uint64{1, 39, 41, 42, 43, 40 + 1<<32, greatest} {
		wantNone(t, h.ring, api.Check{Epoch: 6, Seq: seq, Tail: 17})
	}
}

// From a place on at which none of them begins, they are not found; from one at which one begins, that one is found and those behind it.
func TestOfOtherTails(t *testing.T) {
	h := storied(20, api.Check{Epoch: 6, Seq: 40, Tail: 17}, 2, 1, 3)
	begins := map[int]int{0: 0, 5: 1, 8: 2}
	for i := range 20 {
		for seq := uint64(39); seq < 44; seq++ {
			c := api.Check{Epoch: 6, Seq: seq, Tail: (17 + i) % 20}
			n, is := begins[i]
			if !is || seq != 40+uint64(n) {
				wantNone(t, h.ring, c)
				continue
			}
			wantFound(t, h.ring, c, history{h.ring, c, h.txns[n:]}.found(3-n))
		}
	}
}

// A batch that does not stand right behind the one before it is not found.
func TestOfGaps(t *testing.T) {
	for gap := 1; gap < 8; gap++ {
		for tail := range 14 {
			h := storied(14, api.Check{Epoch: 1, Seq: 1, Tail: tail}, 1)
			lay(h.ring, tail+3+gap, drafted(1, batch(2, 1)).sectors()...)
			h.wantFirst(t, 1)
		}
	}
}

// What stands behind the batches and happens to continue them is found: it can't be told from them.
func TestOfWhatContinues(t *testing.T) {
	h := storied(14, api.Check{Epoch: 1, Seq: 1, Tail: 9}, 1, 1, 2)
	again := batch(1, 1)
	again.Patches[0].Data = filled('n')
	h.txns[0] = again
	lay(h.ring, 9, drafted(1, again).sectors()...)
	h.wantFirst(t, 3)
}

// The ring as it is after it has gone round: older batches stand ahead of those that count, behind them, and partly below them.
func TestOfRingsThatHaveGoneRound(t *testing.T) {
	const places = 23
	ring := noise(places)
	var live []api.Txn
	tail, used, seq := 5, 0, uint64(1)
	for round := range 200 {
		n := 1 + round*7%5
		if used+2*n+1 > places { // a new checkpoint: none of them counts any more
			tail, used, live = (tail+used)%places, 0, nil
		}
		c := api.Check{Epoch: 4, Seq: seq - uint64(len(live)), Tail: tail}
		x := batch(seq, n)
		sectors := drafted(4, x).sectors()
		for i, b := range sectors {
			h := history{ring, c, live}
			h.wantFirst(t, len(live))
			lay(ring, tail+used+i, b)
		}
		live, used, seq = append(live, x), used+len(sectors), seq+1
		history{ring, c, live}.wantFirst(t, len(live))
		wantNone(t, ring, api.Check{Epoch: 5, Seq: c.Seq, Tail: tail})
		wantNone(t, ring, api.Check{Epoch: 4, Seq: seq, Tail: tail})
	}
}

// The last number: its batch is found, and none behind it, whatever stands there.
func TestOfTheLastNumber(t *testing.T) {
	for _, c := range []struct {
		seq     uint64
		lengths []int
		n       int
	}{
		{greatest, []int{1}, 1},
		{greatest, []int{2}, 1},
		{greatest, []int{1, 1}, 1},
		{greatest, []int{2, 1, 1}, 1},
		{greatest - 1, []int{1, 1}, 2},
		{greatest - 1, []int{1, 2, 1}, 2},
		{greatest - 2, []int{1, 1, 1, 1}, 3},
	} {
		for tail := range 13 {
			for _, epoch := range []uint64{0, 1, greatest} {
				h := storied(13, api.Check{Epoch: epoch, Seq: c.seq, Tail: tail}, c.lengths...)
				h.wantFirst(t, c.n)
				if next := h.found(c.n).Next; next != greatest+1 {
					t.Fatalf("the last one is followed by %d", next)
				}
				// Behind the last number there is neither the first one nor none.
				for _, seq := range []uint64{0, 1, greatest} {
					for i, b := range drafted(epoch, moved(batch(2, 1), seq)).sectors() {
						if h.used(c.n)+3 <= 13 {
							h = h.with(h.used(c.n)+i, b)
						}
					}
					h.wantFirst(t, c.n)
				}
			}
		}
	}
	wantNone(t, noise(5), api.Check{Epoch: 1, Seq: greatest, Tail: 2})
}

// The epochs' ends, with the same numbers in the ring.
func TestOfTheLastEpochs(t *testing.T) {
	for _, epoch := range []uint64{0, 1, greatest - 1, greatest} {
		for _, seq := range []uint64{1, 2, greatest - 3, greatest - 2} {
			h := storied(16, api.Check{Epoch: epoch, Seq: seq, Tail: 9}, 1, 3, 1)
			h.wantFirst(t, 3)
			for _, other := range []uint64{0, 1, greatest - 1, greatest} {
				if other != epoch {
					wantNone(t, h.ring, api.Check{Epoch: other, Seq: seq, Tail: 9})
				}
			}
		}
	}
}
