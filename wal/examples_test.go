package wal_test

import (
	"slices"
	"testing"

	"spindle/api"
	"spindle/bay"
	"spindle/wal"
)

// example is the bay of the chapter's examples, with the journal that is formatted there.
func example(t *testing.T) (*bay.Bay, *wal.Wal) {
	t.Helper()
	b, e := bay.New(12)
	if e != api.OK {
		t.Fatal(e)
	}
	w, e := wal.Format(b, 0, 10, 1)
	if w == nil || e != api.OK {
		t.Fatalf("Format: %v, %v", w, e)
	}
	return b, w
}

func wantE(t *testing.T, what string, got, want api.Errno) {
	t.Helper()
	if got != want {
		t.Errorf("%s: %v; want %v", what, got, want)
	}
}

func wantCounts(t *testing.T, what string, b *bay.Bay, reads, writes, flushes int) {
	t.Helper()
	if want := (api.Counts{Reads: reads, Writes: writes, Flushes: flushes}); b.Counts() != want {
		t.Errorf("%s: %v operations; want %v", what, b.Counts(), want)
	}
}

func wantFace(t *testing.T, what string, w *wal.Wal, used int, next uint64, sure bool) {
	t.Helper()
	if want := (face{10, used, next, sure}); faceOf(w) != want {
		t.Errorf("%s: size, used, next and sure: %v; want %v", what, faceOf(w), want)
	}
}

func TestFirstExample(t *testing.T) {
	b, w := example(t)
	wantCounts(t, "Format", b, 0, 11, 1)
	wantFace(t, "Format", w, 0, 1, true)
	wantE(t, "Log", w.Log(batch(1, 2)), api.OK)
	wantCounts(t, "Log", b, 0, 15, 2)
	wantFace(t, "Log", w, 0, 1, true)
	wantE(t, "Seal", w.Seal(), api.OK)
	wantCounts(t, "Seal", b, 0, 16, 2)
	wantFace(t, "Seal", w, 5, 2, false)
	wantE(t, "Reclaim", w.Reclaim(), api.ErrArg)
	wantCounts(t, "Reclaim", b, 0, 16, 2)
	wantE(t, "Sync", w.Sync(), api.OK)
	wantCounts(t, "Sync", b, 0, 16, 3)
	wantFace(t, "Sync", w, 5, 2, true)
	wantE(t, "Log of three", w.Log(batch(2, 3)), api.ErrWalFull)
	wantE(t, "Log of five", w.Log(batch(2, 5)), api.ErrTooLarge)
	wantE(t, "Log of none", w.Log(nil), api.ErrArg)
	wantCounts(t, "Log that is refused", b, 0, 16, 3)
	wantE(t, "Reclaim", w.Reclaim(), api.OK)
	wantCounts(t, "Reclaim", b, 0, 17, 4)
	wantFace(t, "Reclaim", w, 0, 2, true)
}

// wantOpened opens the journal of an example.
func wantOpened(t *testing.T, what string, b *bay.Bay, used int, next uint64, want ...api.Txn) {
	t.Helper()
	w, l, e := wal.Open(b, 0, 10)
	if w == nil || e != api.OK || !sameTxns(l, want) {
		t.Fatalf("%s: %v, %s, %v; want %s", what, w, told(l), e, told(want))
	}
	wantFace(t, what, w, used, next, true)
}

func TestSecondExample(t *testing.T) {
	for _, synced := range []bool{false, true} {
		for _, kept := range []bool{false, true} {
			b, w := example(t)
			wantE(t, "Log", w.Log(batch(1, 2)), api.OK)
			wantE(t, "Seal", w.Seal(), api.OK)
			if synced {
				wantE(t, "Sync", w.Sync(), api.OK)
			}
			b.Cut([]bool{kept})
			if synced || kept {
				wantOpened(t, "one batch", b, 5, 2, api.Txn{Seq: 1, Patches: batch(1, 2)})
			} else {
				wantOpened(t, "no batch", b, 0, 1)
			}
		}
	}
}

func TestThirdExample(t *testing.T) {
	b, w := example(t)
	wantE(t, "Seal without Log", w.Seal(), api.ErrArg)
	wantE(t, "Log", w.Log(batch(1, 2)), api.OK)
	wantE(t, "another Log", w.Log(batch(2, 1)), api.OK)
	wantE(t, "Seal", w.Seal(), api.OK)
	wantE(t, "another Seal", w.Seal(), api.ErrArg)
	wantOpened(t, "the second batch", b, 3, 2, api.Txn{Seq: 1, Patches: batch(2, 1)})
}

func TestFourthExample(t *testing.T) {
	for _, sure := range []bool{false, true} {
		b, w := example(t)
		wantE(t, "Log", w.Log(batch(1, 2)), api.OK)
		if !sure {
			wantE(t, "Seal", w.Seal(), api.OK)
		}
		b.Fail(0)
		wantE(t, "Log", w.Log(batch(2, 1)), api.ErrFailed)
		wantE(t, "Seal", w.Seal(), api.ErrFailed)
		want := api.ErrFailed
		if sure {
			want = api.OK
		}
		wantE(t, "Sync", w.Sync(), want)
		wantE(t, "Reclaim", w.Reclaim(), api.ErrFailed)
	}
	b, _ := bay.New(12)
	if w, l, e := wal.Open(b, 0, 10); w != nil || len(l) > 0 || e != api.ErrWalForm {
		t.Errorf("Open of zeros: %v, %s, %v", w, told(l), e)
	}
	if w, e := wal.Format(b, 0, 11, 1); w != nil || e != api.ErrRange {
		t.Errorf("Format of a ring of 11: %v, %v", w, e)
	}
}

// The sector of a checkpoint, byte by byte, and where everything stands.
func TestWhereEverythingStands(t *testing.T) {
	b, w := example(t)
	for range 4 { // to the place 7
		wantE(t, "Log", w.Log(batch(1, 1)), api.OK)
		wantE(t, "Seal", w.Seal(), api.OK)
		wantE(t, "Sync", w.Sync(), api.OK)
		if w.Used() == 6 {
			wantE(t, "Reclaim", w.Reclaim(), api.OK)
		}
	}
	wantE(t, "Renew", w.Renew(), api.OK)
	image, _ := b.Image(0)
	want := checkpoint(2, 5, 2)
	if got := image[128:256]; !slices.Equal(got, want) {
		t.Errorf("the checkpoint is % x; want % x", got, want)
	}
	wantE(t, "Log", w.Log([]api.Patch{{Member: 3, Row: 9, Data: full('x')}}), api.OK)
	wantE(t, "Seal", w.Seal(), api.OK)
	wantE(t, "Sync", w.Sync(), api.OK)
	image, _ = b.Image(0)
	if header := image[4*128 : 5*128]; string(header[:5]) != "SPJL\x01" || header[8] != 2 || header[16] != 5 {
		t.Errorf("the header is % x", header)
	}
	if !slices.Equal(image[5*128:6*128], full('x')) {
		t.Errorf("the data are % x", image[5*128:6*128])
	}
	if commit := image[6*128 : 7*128]; string(commit[:5]) != "SPJL\x02" || commit[8] != 2 || commit[16] != 5 {
		t.Errorf("the commit is % x", commit)
	}
	if !slices.Equal(image[:128], full(0)) {
		t.Errorf("sector 0 is % x", image[:128])
	}
}
