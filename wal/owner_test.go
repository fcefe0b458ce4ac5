package wal_test

import (
	"bytes"
	"math/rand"
	"slices"
	"testing"

	"spindle/api"
)

// spare is a copy of a batch, with room behind it and behind the bytes of each patch, full of something else.
func spare(l []api.Patch) []api.Patch {
	m := make([]api.Patch, len(l)+3)
	copy(m, l)
	for i := range m {
		m[i].Data = append(slices.Clone(m[i].Data), full(0xee)...)[:len(m[i].Data)]
	}
	return m[:len(l)]
}

// scribble writes all over a batch and behind it.
func scribble(l []api.Patch) {
	l = l[:cap(l)]
	for i, p := range l {
		data := p.Data[:cap(p.Data)]
		for j := range data {
			data[j] = ^data[j]
		}
		l[i].Member, l[i].Row = -7, 1<<40
	}
}

// wantWhole wants a batch with room behind it to be as spare has made it.
func wantWhole(t *testing.T, what string, l, want []api.Patch) {
	t.Helper()
	l, want = l[:cap(l)], spare(want)
	want = want[:len(want)+3]
	for i := range want {
		p, q := l[i], want[i]
		if p.Member != q.Member || p.Row != q.Row || len(p.Data) != len(q.Data) || !bytes.Equal(p.Data[:len(p.Data)+128], q.Data[:len(q.Data)+128]) {
			t.Errorf("%s: patch %d is another one", what, i)
		}
	}
}

// What is handed in is not changed, neither it nor what is behind it, whether it is logged or refused.
func TestArgumentsStayAsTheyAre(t *testing.T) {
	for _, n := range []int{0, 1, 2, 3, 4, 5, 6} {
		x := formatted(t, 10, 4)
		want := batch(77, n)
		l := spare(want)
		x.w.Log(l)
		wantWhole(t, "Log", l, want)
		x.w.Seal()
		x.w.Log(l)
		x.w.Seal()
		x.w.Sync()
		x.w.Reclaim()
		x.w.Renew()
		x.b.Cut()
		wantWhole(t, "what followed", l, want)
		x.b.Fail(1)
		x.w.Log(l)
		x.w.Log(l)
		wantWhole(t, "Log of a broken journal", l, want)
	}
}

// Writing into what was handed in changes nothing of what was logged, nor of what is sealed later.
func TestArgumentsAreNotKept(t *testing.T) {
	for n := 1; n <= 4; n++ {
		for _, between := range []string{"", "sync", "refused"} {
			x := formatted(t, 10, 4)
			l := spare(batch(77, n))
			x.logThese(l, api.OK)
			scribble(l)
			switch between {
			case "sync":
				x.sync(api.OK)
			case "refused":
				x.logThese(l[:1], api.ErrRange)
			}
			x.seal(api.OK)
			scribble(l)
			x.sync(api.OK)
			scribble(l)
			x.cut()
			if found := x.open(api.OK); !sameTxns(found, []api.Txn{{Seq: 1, Patches: batch(77, n)}}) {
				t.Errorf("%d patches: %s", n, told(found))
			}
		}
	}
}

// The same bytes may be handed in for each patch, and from what was found.
func TestArgumentsMayShare(t *testing.T) {
	x := formatted(t, 20, 4)
	data := append([]byte("SPJL"), full(9)[4:]...)
	l := []api.Patch{{Member: 1, Row: 2, Data: data}, {Member: 1, Row: 2, Data: data}, {Member: 2, Row: 2, Data: data}}
	x.logThese(l, api.OK)
	x.run("seal sync")
	found := x.open(api.OK)
	x.logThese(found[0].Patches, api.OK)
	scribble(found[0].Patches)
	x.run("seal sync")
	if again := x.open(api.OK); !sameTxns(again, []api.Txn{{Seq: 1, Patches: l}, {Seq: 2, Patches: l}}) {
		t.Errorf("%s", told(again))
	}
}

// What comes out is its owner's: writing into it changes nothing of the journal, nor of what comes out later.
func TestBatchesAreTheirOwners(t *testing.T) {
	x := formatted(t, 30, 4)
	x.run("log2 seal log1 seal log3 seal sync")
	want := x.open(api.OK)
	face, before := faceOf(x.w), x.durable()
	for range 3 {
		l := x.open(api.OK)
		if !sameTxns(l, want) || faceOf(x.w) != face {
			t.Fatalf("%s; want %s", told(l), told(want))
		}
		for i := range l[:cap(l)] {
			scribble(l[:cap(l)][i].Patches)
			l[:cap(l)][i] = api.Txn{Seq: 99}
		}
		x.compare("writing into what came out")
		if !slices.Equal(x.durable(), before) || faceOf(x.w) != face {
			t.Fatal("writing into what came out has changed the journal")
		}
	}
	x.run("log3 seal sync reclaim log2 seal sync renew log1 seal")
	if l := x.open(api.OK); len(l) != 1 || !samePatches(l[0].Patches, x.last) {
		t.Errorf("%s", told(l))
	}
}

// Of what comes out no two slices share memory, nor does one have room that is another's; what is done later changes none of it.
func TestBatchesStandAlone(t *testing.T) {
	x := formatted(t, 30, 4)
	x.run("log2 seal log1 seal log4 seal sync")
	want := x.open(api.OK)
	for i := range want {
		for j := range want[i].Patches {
			l := x.open(api.OK)
			p := l[i].Patches[j].Data
			p = p[:cap(p)]
			for k := range p {
				p[k] = ^p[k]
			}
			copy(l[i].Patches[j].Data, want[i].Patches[j].Data)
			if !sameTxns(l, want) {
				t.Errorf("patch %d of batch %d shares memory with another", j, i)
			}
		}
		l := x.open(api.OK)
		room := l[i].Patches[len(l[i].Patches):cap(l[i].Patches)]
		for k := range room {
			room[k] = api.Patch{Member: 99}
		}
		if !sameTxns(l, want) {
			t.Errorf("behind batch %d there is room that is another's", i)
		}
	}
	kept, copied := x.open(api.OK), x.open(api.OK)
	for _, l := range [][]api.Txn{x.open(api.OK), x.open(api.OK)} {
		for i := range l {
			scribble(l[i].Patches)
		}
	}
	x.run("log2 seal sync reclaim log2 seal log3 seal sync renew log4")
	x.put(slices.Repeat([]string{string(full(1))}, 33)...)
	if !sameTxns(kept, copied) || !sameTxns(kept, want) {
		t.Errorf("%s has changed", told(kept))
	}
}

// stranger is another journal of the same bay.
func (x *pair) stranger(slot, size int, epoch uint64) *pair {
	x.t.Helper()
	y := &pair{t: x.t, slot: slot, size: size, b: x.b, p: x.p, serial: 500}
	y.format(epoch, api.OK)
	return y
}

// Journals in several slots of one bay, and on several bays, know nothing of one another.
func TestJournalsDoNotKnowOfEachOther(t *testing.T) {
	for seed := range 20 {
		r := rand.New(rand.NewSource(int64(seed)))
		all := []*pair{}
		for _, size := range []int{12, 12, 9} {
			x := bays(t, 0, size, 14, 14, 14)
			x.format(4, api.OK)
			all = append(all, x, x.stranger(1, size, 4), x.stranger(2, 10, 5))
		}
		for range 200 {
			i := r.Intn(len(all))
			x := all[i]
			if r.Intn(20) == 0 {
				x.open(api.OK)
			} else if e := x.attempt(anything(r, 1)[0]); e == api.ErrWalFull {
				x.run("sync reclaim")
			}
			for _, y := range all {
				y.compare("a call of another journal")
			}
		}
		for _, x := range all {
			there := x.open(api.OK)
			x.cut(bools(len(x.b.Pending(x.slot)), true)...)
			if l := x.open(api.OK); !sameTxns(l, there) {
				t.Errorf("%s; want %s", told(l), told(there))
			}
		}
	}
}

// If one of them is broken, the others go on.
func TestBrokenJournalsAreAlone(t *testing.T) {
	x := bays(t, 0, 10, 12, 12)
	x.format(4, api.OK)
	y := x.stranger(1, 10, 4)
	z := formatted(t, 10, 4)
	x.run("log1 seal")
	y.run("log1 seal")
	x.wear(1)
	x.log(2, api.ErrFailed)
	y.run("log2 seal sync reclaim renew log4")
	x.wantBroken(api.ErrFailed)
	y.run("seal sync")
	x.trip(0)
	y.reclaim(api.ErrBayDark)
	z.run("log2 seal sync reclaim")
	x.wantBroken(api.ErrFailed)
	y.wantBroken(api.ErrBayDark)
	y.cut()
	if l := y.open(api.OK); len(l) != 1 {
		t.Errorf("%s", told(l))
	}
	y.run("reclaim log1 seal sync")
}
