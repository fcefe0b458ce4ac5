package scan_test

import (
	"testing"

	"spindle/api"
)

// wrong are the batches that a good one becomes by a change of one of its patches, at each of its places.
func wrong(n int, change func(p *api.Patch)) []api.Txn {
	var l []api.Txn
	for i := range n {
		x := batch(5, n)
		change(&x.Patches[i])
		l = append(l, x)
	}
	return l
}

func wantAllRefused(t *testing.T, l []api.Txn, want api.Errno) {
	t.Helper()
	for _, x := range l {
		wantNoSectors(t, 1, x, want)
	}
}

func TestSectorsRefuseMembers(t *testing.T) {
	for _, member := range append([]int{-1, 16, 17, 31, 255, 256}, wildInts...) {
		wantAllRefused(t, wrong(1, func(p *api.Patch) { p.Member = member }), api.ErrRange)
		wantAllRefused(t, wrong(4, func(p *api.Patch) { p.Member = member }), api.ErrRange)
	}
}

func TestSectorsRefuseRows(t *testing.T) {
	for _, row := range append([]int{-1, 4096, 4097, 8191, 65535, 65536}, wildInts...) {
		wantAllRefused(t, wrong(1, func(p *api.Patch) { p.Row = row }), api.ErrRange)
		wantAllRefused(t, wrong(4, func(p *api.Patch) { p.Row = row }), api.ErrRange)
	}
}

func TestSectorsRefuseNumbers(t *testing.T) {
	for _, word := range wildWords {
		for _, n := range []int{1, 2, 1023} {
			wantNoSectors(t, word, batch(1, n), api.ErrRange)
			wantNoSectors(t, 1, batch(word, n), api.ErrRange)
			wantNoSectors(t, word, batch(word, n), api.ErrRange)
			wantNoSectors(t, word, batch(0, n), api.ErrRange)
		}
	}
	for _, epoch := range []uint64{0, 1, greatest} {
		wantNoSectors(t, epoch, batch(0, 1), api.ErrRange)
		wantNoSectors(t, epoch, batch(0, 9), api.ErrRange)
	}
}

// lengths are those near a sector's, none at all, and many times a sector's; and short ones with room behind them.
func lengths() [][]byte {
	l := [][]byte{nil, {}, filled('a')[:0], filled('a')[:127], filled('a')[:1]}
	for _, n := range []int{1, 2, 4, 64, 124, 127, 129, 132, 255, 256, 128 + 65536} {
		l = append(l, make([]byte, n))
	}
	return l
}

func TestSectorsRefuseLengths(t *testing.T) {
	for _, data := range lengths() {
		wantAllRefused(t, wrong(1, func(p *api.Patch) { p.Data = data }), api.ErrLength)
		wantAllRefused(t, wrong(4, func(p *api.Patch) { p.Data = data }), api.ErrLength)
	}
	wantNoSectors(t, greatest, api.Txn{Seq: greatest, Patches: make([]api.Patch, 1023)}, api.ErrLength)
}

// How many patches there are comes ahead of all else.
func TestLengthOfTheBatchComesFirst(t *testing.T) {
	for _, n := range []int{0, 1024, 1025} {
		for _, p := range []api.Patch{patch(1, 2, filled('a')), patch(-1, 2, nil), patch(1, 4096, filled('a')), patch(1, 2, nil)} {
			x := api.Txn{}
			for range n {
				x.Patches = append(x.Patches, p)
			}
			for _, seq := range []uint64{0, 1, greatest + 1, 1<<64 - 1} {
				for _, epoch := range []uint64{0, greatest + 1, 1<<64 - 1} {
					x.Seq = seq
					wantNoSectors(t, epoch, x, api.ErrArg)
				}
			}
		}
	}
}

// All numbers come ahead of all bytes, whichever patches have them, and whether they are the batch's or a patch's.
func TestNumbersComeBeforeBytes(t *testing.T) {
	for _, data := range lengths() {
		for i := range 3 {
			short := batch(5, 3)
			short.Patches[i].Data = data
			wantNoSectors(t, 1, short, api.ErrLength)
			wantNoSectors(t, greatest+1, short, api.ErrRange)
			for j := range 3 {
				for _, at := range [][2]int{{-1, 0}, {16, 0}, {0, -1}, {0, 4096}, {1 << 62, 1}, {1, -1 << 63}} {
					both := batch(5, 3)
					both.Patches[i].Data = data
					both.Patches[j].Member, both.Patches[j].Row = at[0], at[1]
					wantNoSectors(t, 1, both, api.ErrRange)
				}
			}
			for _, seq := range []uint64{0, greatest + 1, 1<<64 - 1} {
				short.Seq = seq
				wantNoSectors(t, 1, short, api.ErrRange)
			}
		}
	}
}

// wantRingRefused is about a ring that is none, whatever stands in it and wherever it would begin.
func wantRingRefused(t *testing.T, ring []byte) {
	t.Helper()
	for _, tail := range []int{0, 1, 4, len(ring) / 128, 2047} {
		wantNoScan(t, ring, api.Check{Epoch: 1, Seq: 1, Tail: tail})
	}
}

func TestOfRefusesLengths(t *testing.T) {
	wantRingRefused(t, nil)
	wantRingRefused(t, []byte{})
	long := make([]byte, 2052*128)
	lay(long, 0, drafted(1, batch(1, 1)).sectors()...)
	for _, n := range []int{0, 1, 2, 3, 4, 2049, 2050, 2051} {
		wantRingRefused(t, long[:n*128])
	}
	for _, n := range []int{1, 127, 129, 4*128 + 127, 5*128 - 1, 5*128 + 1, 5*128 + 64, 6*128 - 1, 100*128 + 5, 2048*128 - 1, 2048*128 + 1, 2049*128 - 1} {
		wantRingRefused(t, long[:n])
	}
	for _, n := range []int{4096, 65536, 65536 + 5} { // lengths whose last bits are a ring's
		wantRingRefused(t, make([]byte, n*128))
	}
	for _, n := range []int{5, 6, 7, 2047, 2048} {
		wantFound(t, long[:n*128], api.Check{Epoch: 1, Seq: 1}, api.Found{Txns: batches(1, 1), Next: 2, Head: 3, Used: 3})
	}
}

func TestOfRefusesTails(t *testing.T) {
	for _, places := range []int{5, 6, 100, 2047, 2048} {
		ring := make([]byte, places*128)
		for _, tail := range append([]int{-places, -1, places, places + 1, 2048, 2049, 4096}, wildInts...) {
			wantNoScan(t, ring, api.Check{Epoch: 1, Seq: 1, Tail: tail})
		}
		for _, tail := range []int{0, 1, places - 2, places - 1} {
			wantNone(t, ring, api.Check{Epoch: 1, Seq: 1, Tail: tail})
		}
	}
}

func TestOfRefusesNumbers(t *testing.T) {
	ring := make([]byte, 5*128)
	for _, word := range wildWords {
		wantNoScan(t, ring, api.Check{Epoch: word, Seq: 1, Tail: 3})
		wantNoScan(t, ring, api.Check{Epoch: 1, Seq: word, Tail: 3})
		wantNoScan(t, ring, api.Check{Epoch: word, Seq: word, Tail: 5})
	}
	for _, epoch := range []uint64{0, 1, greatest - 1, greatest} {
		wantNoScan(t, ring, api.Check{Epoch: epoch, Tail: 3})
		wantNoScan(t, ring, api.Check{Epoch: epoch, Seq: 1, Tail: 5})
		for _, seq := range []uint64{1, 2, greatest - 1, greatest} {
			wantNone(t, ring, api.Check{Epoch: epoch, Seq: seq, Tail: 3})
		}
	}
}
