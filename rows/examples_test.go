package rows_test

import (
	"bytes"
	"testing"

	"spindle/api"
)

// example is what the chapter's examples are about: a ring of 10, and disks of zeros.
func example(t *testing.T, lazy bool) *pair {
	t.Helper()
	x := made(t, three(), 10, lazy)
	for m := range 3 {
		for row := range 2 {
			x.lay(m, 1+row, full(0))
		}
	}
	return x
}

func TestFirstExample(t *testing.T) {
	x := example(t, false)
	x.spend("write.0", 1, 7, 2)
	x.wantState(true, 0)
	x.wantJournal(5, 2, true)
	x.spend("read.0", 1, 0, 0)

	x = example(t, false) // operation by operation
	x.trip(1)
	x.call("write.0", 3, api.ErrBayDark) // the read was of member 1
	x = example(t, false)
	x.fail(1)
	x.spendTrouble("write.0", 1, api.ErrFailed, 1, 0, 0)
	for n, want := range []api.Counts{
		{}, {Reads: 1}, {Reads: 1, Writes: 1}, {Reads: 1, Writes: 2}, {Reads: 1, Writes: 3}, {Reads: 1, Writes: 4},
		{Reads: 1, Writes: 4, Flushes: 1}, {Reads: 1, Writes: 5, Flushes: 1}, {Reads: 1, Writes: 5, Flushes: 2},
		{Reads: 1, Writes: 6, Flushes: 2},
	} {
		slot := []int{1, 3, 3, 3, 3, 3, 3, 3, 0, 2}[n]
		x = example(t, false)
		x.trip(n)
		x.spendTrouble("write.0", slot, api.ErrBayDark, want.Reads, want.Writes, want.Flushes)
		x.wantState(n >= 7, []int{0, 2}[min(n/7, 1)])
	}
}

func TestSecondExample(t *testing.T) {
	x := example(t, true)
	x.spend("write.0", 1, 5, 1)
	x.wantState(true, 2)
	x.wantJournal(5, 2, false)
	x.spend("read.0", 0, 0, 0)
	x.spend("settle", 0, 2, 1)
	x.wantState(true, 0)
	x.wantJournal(5, 2, true)
	x.spend("read.0", 1, 0, 0)
}

func TestThirdExample(t *testing.T) {
	for _, lazy := range []bool{false, true} {
		x := example(t, lazy)
		x.run("write.0 settle down.0.0")
		x.fail(0)
		x.spend("read.0", 2, 0, 0)
		if lazy {
			x.spend("write.0", 1, 3, 1)
			x.wantState(true, 1)
			x.spend("settle", 0, 1, 1)
		} else {
			x.spend("write.0", 1, 4, 2)
		}
		x.wantState(true, 0)
		data, _ := x.read(0)
		if !bytes.Equal(data, random(x.serial)) {
			t.Errorf("what is worked out is not what was written")
		}
		x.run("down.1.0")
		x.spendTrouble("read.0", 0, api.ErrPlanLost, 0, 0, 0)
		x.run("down.1.1")
		x.spend("read.0", 2, 0, 0)
	}
}

func TestFourthExample(t *testing.T) {
	for _, lazy := range []bool{false, true} {
		x := example(t, lazy)
		x.spendTrouble("write.0.1.2.3", 0, api.ErrTooLarge, 0, 0, 0)
		x.spendTrouble("write.4", 0, api.ErrRange, 0, 0, 0)
		if lazy {
			x.spend("write.0.2", 2, 9, 1)
			x.wantState(true, 4)
		} else {
			x.spend("write.0.2", 2, 13, 2)
		}
		x.wantJournal(9, 2, !lazy)
		x.spendTrouble("write.0.1.2.3", 0, api.ErrTooLarge, 0, 0, 0)
		x.spendTrouble("write.4", 0, api.ErrRange, 0, 0, 0)
	}
}
