package heal_test

import (
	"testing"

	"spindle/api"
	"spindle/bay"
	"spindle/heal"
	"spindle/rows"
	"spindle/wal"
)

// example is what the chapter's examples are about.
func example(t *testing.T) (*bay.Bay, *rows.Rows) {
	t.Helper()
	b, _ := bay.New(3, 3, 3, 12)
	w, _ := wal.Format(b, 3, 10, 1)
	r, e := rows.New(b, three(), w, false)
	if e != api.OK {
		t.Fatalf("rows.New: %v", e)
	}
	for block := range 4 {
		if u := r.Write([]api.Put{{Block: block, Data: random(block)}}); u != noTrouble() {
			t.Fatalf("Write: %v", u)
		}
	}
	return b, r
}

// wantStep wants this trouble of a Step with the example's geometry, and so many operations.
func wantStep(t *testing.T, b *bay.Bay, r *rows.Rows, member, stripe int, want api.Trouble, spent api.Counts) {
	t.Helper()
	was := b.Counts()
	u := heal.Step(b, three(), r, member, stripe)
	now := b.Counts()
	got := api.Counts{Reads: now.Reads - was.Reads, Writes: now.Writes - was.Writes, Flushes: now.Flushes - was.Flushes}
	if u != want || got != spent {
		t.Errorf("Step(%d, %d): %v, %v operations; want %v, %v", member, stripe, u, got, want, spent)
	}
}

func TestFirstExample(t *testing.T) {
	b, r := example(t)
	whole := api.Counts{Reads: 2, Writes: 1, Flushes: 1}
	r.Mark(1, true, 0)
	wantStep(t, b, r, 1, 0, noTrouble(), whole)
	r.Mark(1, true, 1)
	wantStep(t, b, r, 1, 0, without(api.ErrHealIdle), api.Counts{})
	wantStep(t, b, r, 1, 1, noTrouble(), whole)

	for _, first := range []int{0, 2} { // the reads are of the members 0 and 2
		b, r = example(t)
		r.Mark(1, true, 0)
		b.Fail(first)
		wantStep(t, b, r, 1, 0, of(first, api.ErrFailed), api.Counts{Reads: 1 + first/2})
	}
}

func TestSecondExample(t *testing.T) {
	b, r := example(t)
	r.Mark(1, true, 0)
	wantStep(t, b, r, 3, 0, without(api.ErrRange), api.Counts{})
	wantStep(t, b, r, 1, 2, without(api.ErrRange), api.Counts{})
	r.Mark(2, true, 0)
	wantStep(t, b, r, 1, 0, without(api.ErrPlanLost), api.Counts{})
	r.Mark(2, false, 0)
	b.Fail(0)
	wantStep(t, b, r, 1, 0, of(0, api.ErrFailed), api.Counts{Reads: 1})
}
