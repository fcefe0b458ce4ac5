package wal_test

import (
	"slices"
	"testing"

	"spindle/api"
)

// wantNoSeal wants Seal to find no batch that is logged.
func (x *pair) wantNoSeal(what string) {
	x.t.Helper()
	was := faceOf(x.w)
	x.wantSpent(what, 0, 0, 0, func() { x.seal(api.ErrArg) })
	if faceOf(x.w) != was {
		x.t.Errorf("%s: %v; want %v", what, faceOf(x.w), was)
	}
}

func TestSealWithoutLog(t *testing.T) {
	for _, script := range []string{"", "sync", "reclaim", "renew", "log1 seal", "log1 seal sync", "log1 reclaim", "log1 renew", "log1 seal sync reclaim", "log1 seal sync renew", "log1 seal log1 reclaim", "log1 seal log2 renew", "log1 log2 seal", "log1 reclaim log2 renew"} {
		x := formatted(t, 10, 4)
		x.run(script)
		x.wantNoSeal("Seal behind " + script)
		x.wantNoSeal("Seal twice behind " + script)
		x.open(api.OK)
		x.wantNoSeal("Seal behind Open behind " + script)
	}
	x := formatted(t, 10, 4)
	x.wantRefused(nil, api.ErrArg)
	x.wantRefused(batch(1, 5), api.ErrTooLarge)
	x.wantNoSeal("Seal behind a Log that is refused")
}

// What does not discard a logged batch: a Sync, a Seal of none, and what is refused.
func TestSealOfWhatWasLogged(t *testing.T) {
	x := formatted(t, 10, greatest)
	x.run("log1 seal")
	l := x.log(2, api.OK)
	x.wantFace(3, 2, true)
	x.sync(api.OK)
	x.renew(api.ErrRecordForm)
	x.wantRefused(batch(1, 4), api.ErrWalFull)
	x.seal(api.OK)
	x.wantFace(8, 3, false)
	x.cut(true)
	if found := x.open(api.OK); len(found) != 2 || !samePatches(found[1].Patches, l) {
		t.Errorf("%s", told(found))
	}
}

// Seal writes a commit and does not flush: alone of all sectors of the batch it may be lost.
func TestSealIsNotSure(t *testing.T) {
	for _, kept := range []bool{false, true} {
		for n := 1; n <= 4; n++ {
			x := formatted(t, 10, 4)
			l := x.log(n, api.OK)
			x.wantSpent("Seal", 0, 1, 0, func() { x.seal(api.OK) })
			x.wantFace(2*n+1, 2, false)
			if got := x.b.Pending(1); !slices.Equal(got, []int{2 + 2*n}) {
				t.Errorf("%d patches: sectors %v in the cache", n, got)
			}
			x.cut(kept)
			found := x.open(api.OK)
			if kept && !sameTxns(found, []api.Txn{{Seq: 1, Patches: l}}) || !kept && len(found) > 0 {
				t.Errorf("%d patches, kept %v: %s", n, kept, told(found))
			}
		}
	}
}

// Sync performs nothing if the journal is sure, also where an operation would fail; otherwise just a flush.
func TestSync(t *testing.T) {
	for _, script := range []string{"", "log1", "log1 seal sync", "log1 seal log1", "reclaim", "renew", "log1 seal sync reclaim"} {
		x := formatted(t, 10, 4)
		x.run(script)
		was := faceOf(x.w)
		quiet := func() {
			t.Helper()
			x.wantSpent("Sync", 0, 0, 0, func() { x.sync(api.OK) })
			if faceOf(x.w) != was {
				t.Errorf("%s: Sync: %v; want %v", script, faceOf(x.w), was)
			}
		}
		quiet()
		x.trip(0)
		x.wear(0)
		quiet()
		if x.b.Dark() || !x.b.Has(1) {
			t.Errorf("%s: Sync used up the trip, or the wear", script)
		}
		x.b.Read(0, 0)
		x.p.perform(0, operation{kind: 'r'})
		quiet()
		x.fail()
		quiet()
		x.pull()
		quiet()
	}
	x := formatted(t, 10, 4)
	x.run("log1 seal")
	x.wantSpent("Sync", 0, 0, 1, func() { x.sync(api.OK) })
	x.wantFace(3, 2, true)
	if l := x.b.Pending(1); len(l) > 0 {
		t.Errorf("sectors %v in the cache behind Sync", l)
	}
	x.wantSpent("Sync", 0, 0, 0, func() { x.sync(api.OK) })
}

// wantPassed wants Reclaim or Renew to write this checkpoint, and nothing else, and to flush it.
func (x *pair) wantPassed(name string, epoch, seq uint64, tail int) {
	x.t.Helper()
	before := x.durable()
	x.wantSpent(name, 0, 1, 1, func() { x.call(name, api.OK) })
	x.wantFace(0, seq, true)
	before[1] = string(checkpoint(epoch, seq, tail))
	if !slices.Equal(x.durable(), before) {
		x.t.Errorf("%s to epoch %d, number %d, tail %d: % x", name, epoch, seq, tail, x.durable()[1])
	}
}

func TestReclaimAndRenew(t *testing.T) {
	for name, by := range map[string]uint64{"reclaim": 0, "renew": 1} {
		for size := 5; size <= 9; size++ {
			for tail := range size {
				x := tailed(t, size, 4, 7, tail)
				x.wantPassed(name, 4+by, 7, tail)
				x.run("log1 seal sync")
				x.wantPassed(name, 4+2*by, 8, (tail+3)%size)
				x.run("log2 seal sync")
				x.wantPassed(name, 4+3*by, 9, (tail+8)%size)
				x.wantPassed(name, 4+4*by, 9, (tail+8)%size)
				l := x.log(2, api.OK)
				x.run("seal sync")
				x.wantStanding((tail+8)%size, 4+4*by, 9, l, true)
			}
		}
	}
}

// All batches since the checkpoint go at once, those that were found by Open too.
func TestReclaimOfSeveral(t *testing.T) {
	for name, by := range map[string]uint64{"reclaim": 0, "renew": 1} {
		for _, opened := range []bool{false, true} {
			x := tailed(t, 16, 4, 7, 13)
			x.run("log1 seal log2 seal log3 seal sync")
			x.wantFace(15, 10, true)
			if opened {
				x.cut()
				x.open(api.OK)
				x.wantFace(15, 10, true)
			}
			x.call(name, api.OK)
			x.wantFace(0, 10, true)
			x.cut()
			if l := x.open(api.OK); len(l) > 0 {
				t.Errorf("%s", told(l))
			}
			x.wantFace(0, 10, true)
			x.run("log7 seal sync")
			x.wantStanding((13+15)%16, 4+by, 10, batch(x.serial, 7), true)
		}
	}
}

// A journal whose places are all in use is emptied like any other.
func TestReclaimOfAFullRing(t *testing.T) {
	for _, name := range []string{"reclaim", "renew"} {
		for tail := range 5 {
			x := tailed(t, 5, 4, 7, tail)
			for range 7 {
				x.run("log2 seal sync")
				x.wantFace(5, x.w.Next(), true)
				x.wantRefused(batch(1, 1), api.ErrWalFull)
				x.call(name, api.OK)
				x.wantFace(0, x.w.Next(), true)
			}
		}
	}
}

// wantNoPass wants Reclaim or Renew to be refused without an operation, and to change nothing.
func (x *pair) wantNoPass(name string, want api.Errno) {
	x.t.Helper()
	was, before := faceOf(x.w), x.durable()
	x.wantSpent(name, 0, 0, 0, func() { x.call(name, want) })
	if faceOf(x.w) != was || !slices.Equal(x.durable(), before) {
		x.t.Errorf("%s that is refused: %v; want %v", name, faceOf(x.w), was)
	}
}

func TestReclaimOfWhatIsNotSure(t *testing.T) {
	for _, name := range []string{"reclaim", "renew"} {
		for _, script := range []string{"log1 seal", "log1 seal sync log1 seal", "log1 seal log1 seal", "renew log2 seal"} {
			x := formatted(t, 10, 4)
			x.run(script)
			x.wantNoPass(name, api.ErrArg)
			x.sync(api.OK)
			x.call(name, api.OK)
		}
	}
}

// The epochs and the numbers end at 2^62; that the journal is not sure is told ahead of it.
func TestRenewOfTheLastEpoch(t *testing.T) {
	x := formatted(t, 10, greatest-1)
	x.run("log1 seal sync")
	x.wantPassed("renew", greatest, 2, 3)
	for range 2 {
		x.wantNoPass("renew", api.ErrRecordForm)
		x.run("log1 seal")
		x.wantNoPass("renew", api.ErrArg)
		x.sync(api.OK)
		x.wantNoPass("renew", api.ErrRecordForm)
		x.cut()
		x.open(api.OK)
		x.wantNoPass("renew", api.ErrRecordForm)
		tail := (x.v.tail + x.v.used) % 10
		x.wantPassed("reclaim", greatest, x.w.Next(), tail)
		l := x.log(1, api.OK) // of the same epoch as before
		x.run("seal sync")
		x.wantStanding(tail, greatest, x.w.Next()-1, l, true)
	}
}

func TestReclaimOfTheLastNumber(t *testing.T) {
	for name, epoch := range map[string]uint64{"reclaim": 4, "renew": 5} {
		x := tailed(t, 10, 4, greatest-1, 0)
		x.run("log1 seal sync")
		x.wantPassed(name, epoch, greatest, 3)
		x.run("log1 seal")
		x.wantFace(3, greatest+1, false)
		x.wantNoPass("reclaim", api.ErrArg)
		x.wantNoPass("renew", api.ErrArg)
		x.sync(api.OK)
		for range 2 {
			x.wantNoPass("reclaim", api.ErrRecordForm)
			x.wantNoPass("renew", api.ErrRecordForm)
			x.cut()
			if l := x.open(api.OK); len(l) != 1 || l[0].Seq != greatest {
				t.Errorf("%s", told(l))
			}
		}
	}
}

// A batch that was logged, and not sealed, is discarded; the next one takes its place and its number.
func TestReclaimDiscardsTheLoggedBatch(t *testing.T) {
	for _, name := range []string{"reclaim", "renew"} {
		for n := 1; n <= 3; n++ {
			x := formatted(t, 10, 4)
			x.run("log1 seal log3")
			x.call(name, api.OK)
			x.wantFace(0, 2, true)
			x.wantNoSeal("Seal behind " + name)
			x.cut()
			if l := x.open(api.OK); len(l) > 0 {
				t.Errorf("%s", told(l))
			}
			l := x.log(n, api.OK)
			x.run("seal sync")
			x.wantFace(2*n+1, 3, true)
			x.wantStanding(3, x.v.epoch, 2, l, true)
			x.cut()
			if found := x.open(api.OK); !sameTxns(found, []api.Txn{{Seq: 2, Patches: l}}) {
				t.Errorf("%s and %d patches: %s", name, n, told(found))
			}
		}
	}
}
