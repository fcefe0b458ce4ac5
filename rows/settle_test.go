package rows_test

import (
	"bytes"
	"testing"

	"spindle/api"
)

func TestSettle(t *testing.T) {
	x := made(t, three(), 10, true)
	x.spend("settle", 0, 0, 0) // nothing has been written
	x.wantState(false, 0)
	x.run("write.0")
	x.spend("settle", 0, 2, 1)
	x.wantState(true, 0)
	x.wantJournal(5, 2, true)
	x.spend("settle", 0, 0, 0)
	x.run("write.1 sync")
	x.spend("settle", 0, 2, 0) // it is sure already
	x.wantState(true, 0)
	x = made(t, three(), 10, false)
	x.run("write.0")
	x.spend("settle", 0, 0, 0)
}

func TestSettleInTrouble(t *testing.T) {
	for n, c := range []struct {
		slot int
		sure bool
	}{{3, false}, {0, true}, {2, true}} {
		x := made(t, three(), 10, true)
		x.run("write.0")
		x.trip(n)
		x.spendTrouble("settle", c.slot, api.ErrBayDark, 0, max(n-1, 0), min(n, 1))
		x.wantState(true, 2)
		x.wantJournal(5, 2, c.sure)
	}
	x := made(t, three(), 10, true)
	x.run("write.0")
	x.fail(3)
	x.spendTrouble("settle", 3, api.ErrFailed, 0, 0, 1)
	x.spendTrouble("settle", 3, api.ErrFailed, 0, 0, 0) // the journal is broken
	x.wantState(true, 2)
}

// The patches all wait on behind a trouble, those that have been written too; once the member is down, the others are placed.
func TestSettleBehindATrouble(t *testing.T) {
	x := made(t, three(), 10, true)
	x.run("write.0") // patches of the members 0 and 2
	x.fail(2)
	x.spendTrouble("settle", 2, api.ErrFailed, 0, 2, 1)
	x.wantState(true, 2)
	x.spendTrouble("settle", 2, api.ErrFailed, 0, 2, 0)
	x.spendTrouble("finish", 2, api.ErrFailed, 0, 2, 0)
	x.run("back") // it is sure
	x.wantState(true, 2)
	x.run("down.2.0")
	x.spend("finish", 0, 1, 0)
	x.wantState(true, 0)
	x.wantBlocks([]api.Put{{Block: 0, Data: random(x.serial)}})
}

func TestFinish(t *testing.T) {
	x := made(t, three(), 10, true)
	x.spend("finish", 0, 0, 0)
	x.run("write.0")
	x.spend("finish", 0, 0, 0) // it isn't sure
	x.wantState(true, 2)
	x.run("sync")
	x.spend("finish", 0, 2, 0)
	x.wantState(true, 0)
	x.spend("finish", 0, 0, 0)
	x.run("write.0 sync down.0.0 down.2.1")
	x.fail(0)
	x.spend("finish", 0, 1, 0) // what is down is skipped, and waits no more
	x.wantState(true, 0)
	x.run("up.2 write.2")
	x.fail(3)
	x.call("settle", 3, api.ErrFailed)
	x.spend("finish", 0, 0, 0)
	x.wantState(true, 2)
}

func TestBack(t *testing.T) {
	x := made(t, three(), 10, true)
	old := x.stands(0, 1)
	x.spend("back", 0, 0, 0)
	x.wantState(false, 0)
	x.run("write.0")
	x.spend("back", 0, 0, 0)
	x.wantState(false, 0)
	x.wantJournal(5, 2, false) // it stays as it is
	x.wantSector(0, 0, old, 1)
	x.spend("settle", 0, 0, 1)
	x.wantState(false, 0)
	x.run("write.0")
	x.wantState(true, 2)
	x.run("back back finish")
	x.wantState(false, 0)
}

// What is sure is not taken back; and where nothing waits, the batch stays sealed.
func TestBackOfWhatIsSure(t *testing.T) {
	x := made(t, three(), 10, true)
	x.run("write.0 sync back")
	x.wantState(true, 2)
	x.run("settle back")
	x.wantState(true, 0)
	x = made(t, three(), 10, false)
	x.run("write.0 back")
	x.wantState(true, 0)
	x.w.Log(x.patches(0, 0)) // past the Rows: now the journal isn't sure, and nothing waits
	x.w.Seal()
	x.p.w.Log(x.patches(0, 0))
	x.p.w.Seal()
	x.r.Back()
	x.wantState(true, 0)
}

// Back takes back what waits of a batch ahead of the last Write, which was refused.
func TestBackBehindARefusedWrite(t *testing.T) {
	for _, refused := range []string{"write", "write.4", "write.0.1.2.3"} {
		x := made(t, three(), 10, true)
		x.run("write.0")
		x.try(refused)
		x.wantState(false, 2)
		x.run("back")
		x.wantState(false, 0)
	}
}

// Behind Log the batch ahead is sure; so a Write that then fails has that one placed by Finish, and not taken back.
func TestBackBehindALog(t *testing.T) {
	x := made(t, three(), 20, true)
	x.run("write.0")
	data := random(x.serial)
	x.fail(0)
	x.call("write.1", 0, api.ErrFailed) // block 0 waits, so member 0 is not read
	x.wantState(false, 2)
	x.wantJournal(5, 2, true)
	x.run("back")
	x.wantState(false, 2)
	x.run("down.0.0")
	x.spend("finish", 0, 1, 0)
	x.wantState(false, 0)
	x.wantSector(0, 0, data, 2)
}

// Where the seal fails nothing waits any more, and nothing is sealed.
func TestWriteWhoseSealFails(t *testing.T) {
	x := made(t, three(), 20, true)
	x.run("write.0")
	x.wear(3, 5)
	x.spendTrouble("write.0", 3, api.ErrFailed, 1, 4+2+1, 1)
	x.wantState(false, 0)
	x.wantJournal(5, 2, true)
}

// A Write whose Settle has a trouble is sealed, and waits: as it isn't sure, it may be taken back.
func TestWriteWhoseSettleFails(t *testing.T) {
	x := made(t, three(), 20, false)
	old := x.stands(0, 1)
	x.wear(3, 6)
	x.spendTrouble("write.0", 3, api.ErrFailed, 1, 5, 2)
	x.wantState(true, 2)
	x.wantJournal(5, 2, false)
	x.run("finish")
	x.wantState(true, 2)
	x.run("back")
	x.wantState(false, 0)
	x.wantSector(0, 0, old, 1)
	x = made(t, three(), 20, false)
	x.fail(2)
	x.spendTrouble("write.0", 2, api.ErrFailed, 1, 7, 2)
	x.wantState(true, 2)
	x.run("back")
	x.wantState(true, 2)
	x.run("down.2.0")
	x.spend("finish", 0, 1, 0)
	x.wantState(true, 0)
}

func TestSealed(t *testing.T) {
	x := made(t, three(), 20, true)
	for _, c := range []struct {
		call   string
		sealed bool
	}{
		{"settle", false}, {"write.0", true}, {"settle", true}, {"empty", true}, {"place.0.0", true}, {"read.0", true},
		{"write.4", false}, {"write.0", true}, {"write", false}, {"settle", false}, {"write.1", true}, {"barrier", true},
		{"write.0.0.0", true}, {"down.0.0", true}, {"down.1.0", true}, {"write.0", false}, {"finish", false}, {"up.1", false}, {"write.0", true},
	} {
		x.try(c.call)
		if x.r.Sealed() != c.sealed {
			t.Errorf("behind %s: sealed %v", c.call, x.r.Sealed())
		}
	}
}

func TestPending(t *testing.T) {
	x := made(t, four(), 40, true)
	for _, c := range []struct {
		call    string
		pending int
	}{
		{"read.0", 0}, {"write.0", 2}, {"write.0", 2}, {"write.0.2.4", 4}, {"write.0.29", 4}, {"place.0.0", 4}, {"barrier", 4},
		{"settle", 0}, {"down.0.0", 0}, {"write.0", 1}, {"write.2", 2}, {"back", 0}, {"write.2", 2}, {"write.30", 2}, {"empty", 0},
	} {
		x.try(c.call)
		if x.r.Pending() != c.pending {
			t.Errorf("behind %s: pending %d; want %d", c.call, x.r.Pending(), c.pending)
		}
	}
}

func TestEmpty(t *testing.T) {
	x := made(t, three(), 10, true)
	x.spend("empty", 0, 1, 4) // the members, and the journal behind its checkpoint
	x.run("write.0")
	data := random(x.serial)
	x.spend("empty", 0, 2+1, 1+3+1)
	x.wantState(true, 0)
	x.wantJournal(0, 2, true)
	if !bytes.Equal(x.stands(0, 1), data) {
		t.Errorf("what was written is not durable in its place")
	}
	x.spend("empty", 0, 1, 4)
	x.run("down.0.0 down.1.1 write.0")
	x.spend("empty", 0, 1+1, 1+2+1)
	x.run("write.0 sync")
	x.spend("empty", 0, 1+1, 2+1)
}

// One operation after the other: the journal is flushed, what waits placed, the members flushed, and the checkpoint written and flushed.
func TestEmptyInTrouble(t *testing.T) {
	for n, slot := range []int{3, 0, 2, 0, 1, 2, 3, 3} {
		x := made(t, three(), 10, true)
		x.run("write.0")
		x.trip(n)
		x.call("empty", slot, api.ErrBayDark)
		pending, used := 2, 5
		if n >= 3 {
			pending = 0
		}
		x.wantState(true, pending)
		x.wantJournal(used, 2, n > 0)
		if l := x.b.Pending(3); n < 6 && len(l) > 1 || n == 7 && (len(l) != 1 || l[0] != 1) {
			t.Errorf("operation %d: the journal has the writes %v in its cache", n, l)
		}
	}
	x := made(t, three(), 10, true)
	x.run("write.0")
	x.pull(1)
	x.spendTrouble("empty", 1, api.ErrBayEmpty, 0, 2, 1+2)
	x.wantJournal(5, 2, true)
	x.run("down.1.0")
	x.spend("empty", 0, 1, 3)
}

// Without a journal there is nothing to settle; only the members are flushed.
func TestWithoutAJournal(t *testing.T) {
	for _, lazy := range []bool{false, true} {
		x := made(t, three(), 0, lazy)
		x.run("place.0.0.1.1.2.0")
		for _, call := range []string{"settle", "finish", "back"} {
			x.spend(call, 0, 0, 0)
		}
		x.spend("empty", 0, 0, 3)
		x.spend("barrier", 0, 0, 3)
		x.run("down.1.0")
		x.fail(1)
		x.spend("empty", 0, 0, 2)
		x.trip(1)
		x.spendTrouble("empty", 2, api.ErrBayDark, 0, 0, 1)
		for _, call := range []string{"settle", "finish", "back"} {
			x.spend(call, 0, 0, 0)
		}
		x.wantState(false, 0)
	}
}
