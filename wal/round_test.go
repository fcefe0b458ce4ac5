package wal_test

import (
	"math/rand"
	"strconv"
	"testing"

	"spindle/api"
)

// room lets the journal have room for a batch of n patches, by one of these calls.
func (x *pair) room(n int, name string) {
	x.t.Helper()
	if x.size-x.w.Used() < 2*n+1 {
		x.sync(api.OK)
		x.call(name, api.OK)
	}
}

// wantAll cuts, keeping nothing or all, and wants these batches to be found.
func (x *pair) wantAll(keep bool, want []api.Txn) {
	x.t.Helper()
	x.cut(bools(len(x.b.Pending(x.slot)), keep)...)
	if l := x.open(api.OK); !sameTxns(l, want) {
		x.t.Fatalf("ring %d: %s; want %s", x.size, told(l), told(want))
	}
}

// Many batches of each length, till the ring has gone round several times; all that is sealed since the checkpoint is there, again and again.
func TestRoundAndRound(t *testing.T) {
	for _, name := range []string{"reclaim", "renew"} {
		for size := 5; size <= 14; size++ {
			for n := 1; 2*n+1 <= size; n++ {
				x := formatted(t, size, 4)
				there := []api.Txn{}
				for seq := uint64(1); seq < 60; seq++ {
					x.room(n, name)
					if x.w.Used() == 0 {
						there = there[:0]
					}
					there = append(there, api.Txn{Seq: seq, Patches: x.log(n, api.OK)})
					x.wantFace((len(there)-1)*(2*n+1), seq, true)
					x.seal(api.OK)
					x.wantFace(len(there)*(2*n+1), seq+1, false)
					if seq%7 == 0 {
						x.wantAll(true, there)
					}
					if seq%5 == 0 {
						x.sync(api.OK)
						x.wantAll(false, there)
					}
				}
			}
		}
	}
}

// The same with batches of changing lengths.
func TestRoundAtRandom(t *testing.T) {
	for seed := range 40 {
		r := rand.New(rand.NewSource(int64(100 + seed)))
		size := 5 + r.Intn(30)
		x := tailed(t, size, uint64(r.Intn(3)), 1+uint64(r.Intn(3)), r.Intn(size))
		there := []api.Txn{}
		for range 100 {
			n := 1 + r.Intn((size-1)/2)
			x.room(n, []string{"reclaim", "renew"}[r.Intn(2)])
			if x.w.Used() == 0 {
				there = there[:0]
			}
			if r.Intn(4) == 0 {
				x.log(1, api.OK)
			}
			there = append(there, api.Txn{Seq: x.w.Next(), Patches: x.log(n, api.OK)})
			x.seal(api.OK)
			if r.Intn(8) == 0 {
				x.wantAll(true, there)
			}
		}
	}
}

func TestRoundInTheGreatestRing(t *testing.T) {
	x := bays(t, 0, 2048, 2050)
	x.format(greatest, api.OK)
	r := rand.New(rand.NewSource(3))
	there := []api.Txn{}
	for i := range 24 {
		n := 1 + r.Intn(500)
		if i%8 == 7 {
			n = 1023
		}
		x.room(n, "reclaim")
		if x.w.Used() == 0 {
			there = there[:0]
		}
		there = append(there, api.Txn{Seq: x.w.Next(), Patches: x.log(n, api.OK)})
		x.seal(api.OK)
		if i%3 == 2 {
			x.wantAll(true, there)
		}
	}
}

// A batch that goes over the end of the ring at each of its sectors.
func TestOverTheEnd(t *testing.T) {
	for _, size := range []int{9, 20, 300} {
		for over := range 10 {
			x := bays(t, 0, size, size+2)
			x.format(4, api.OK)
			x.wantChecked(checkpoint(4, 7, (size-over)%size), api.OK)
			l := x.log(4, api.OK)
			x.run("seal sync")
			x.wantStanding((size-over)%size, 4, 7, l, true)
			x.wantAll(false, []api.Txn{{Seq: 7, Patches: l}})
			x.reclaim(api.OK)
			l = x.log(4, api.OK)
			x.run("seal sync")
			x.wantStanding((size-over+9)%size, 4, 8, l, true)
			x.wantAll(false, []api.Txn{{Seq: 8, Patches: l}})
		}
	}
}

// Any calls in any order answer what the plain journal answers, and leave what it leaves.
func TestAnyCalls(t *testing.T) {
	counts := map[api.Errno]int{}
	for seed := range 300 {
		r := rand.New(rand.NewSource(int64(1000 + seed)))
		size := 5 + r.Intn(12)
		seq, epoch := 1+uint64(r.Intn(2))*(greatest-4), uint64(r.Intn(2))*(greatest-2)
		x := tailed(t, size, epoch, seq, r.Intn(size))
		if r.Intn(3) == 0 {
			x.trip(r.Intn(100))
		} else if r.Intn(3) == 0 {
			x.wear(r.Intn(100))
		}
		for range 60 {
			name := []string{"seal", "seal", "sync", "reclaim", "renew", "log"}[r.Intn(6)]
			if name == "log" {
				name += strconv.Itoa(r.Intn(size/2 + 2))
			}
			counts[x.attempt(name)]++
		}
	}
	for _, e := range []api.Errno{api.OK, api.ErrArg, api.ErrRange, api.ErrFailed, api.ErrBayDark, api.ErrRecordForm, api.ErrWalFull, api.ErrTooLarge} {
		if counts[e] < 20 {
			t.Errorf("%v was answered just %d times", e, counts[e])
		}
	}
}
