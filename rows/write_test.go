package rows_test

import (
	"slices"
	"strconv"
	"strings"
	"testing"

	"spindle/api"
	"spindle/record"
	"spindle/rows"
	"spindle/wal"
)

// writing is the call that writes these blocks.
func writing(blocks ...int) string {
	call := "write"
	for _, n := range blocks {
		call += "." + strconv.Itoa(n)
	}
	return call
}

// firsts are the first n blocks of a row, by rising members, but for the parity's.
func firsts(g api.Geometry, row, n int) []int {
	l := []int{}
	for block := range blocksOf(g) {
		if spotOf(g, block).row == row {
			l = append(l, block)
		}
	}
	slices.SortFunc(l, func(a, b int) int { return spotOf(g, a).member - spotOf(g, b).member })
	return l[:n]
}

// wantWrite wants a Write to read so many sectors, and to make so many patches.
func (x *pair) wantWrite(call string, reads, patches int) {
	x.t.Helper()
	used, next := x.w.Used(), x.w.Next()
	if x.p.lazy {
		x.spend(call, reads, 2*patches+1+x.r.Pending(), 1)
		x.wantState(true, patches)
	} else {
		x.spend(call, reads, 3*patches+1, 2)
		x.wantState(true, 0)
	}
	x.wantJournal(used+2*patches+1, next+1, !x.p.lazy)
}

// By the examples of plans: which sectors are read, and how many are written, whoever is down.
func TestWriteByModes(t *testing.T) {
	for _, c := range []struct {
		marks, call    string
		reads, patches int
	}{
		{"", "write.0", 2, 2},
		{"", "write.0.2", 1, 3},
		{"", "write.4.0.2", 0, 4},
		{"down.3.0", "write.0", 0, 1},
		{"down.3.0", "write.0.2", 0, 2},
		{"down.3.0", "write.0.2.4", 0, 3},
		{"down.0.0", "write.0", 2, 1},
		{"down.0.0", "write.0.2", 1, 2},
		{"down.0.0", "write.0.4.2", 0, 3},
		{"down.1.0", "write.0", 2, 2},
		{"down.2.0", "write.2.0", 3, 3},
		{"down.2.1", "write.0.2", 1, 3}, // row 0 is ahead of where it is down
		{"down.3.1", "write.0.1", 2, 3}, // and row 1 is not
		{"down.0.1", "write.0.1", 4, 3},
		{"down.1.9 down.2.10", "write.0.29", 4, 4}, // row 9 has block 29, and its parity on member 3
		{"down.2.9", "write.0.29", 4, 3},
	} {
		for _, lazy := range []bool{false, true} {
			x := made(t, four(), 20, lazy)
			x.run(c.marks)
			x.wantWrite(c.call, c.reads, c.patches)
			x.run("settle")
			for m := range 4 { // no member that is down is asked
				x = made(t, four(), 20, lazy)
				x.run(c.marks)
				if x.r.Down(m, 0) {
					x.fail(m)
					x.wantWrite(c.call, c.reads, c.patches)
				}
			}
		}
	}
}

// In every geometry, for each number of blocks of a row, whoever is down.
func TestWriteOfEachRow(t *testing.T) {
	for _, g := range shapes() {
		for row := range rowsOf(g) {
			for n := 1; n < g.Members; n++ {
				for m := -1; m < g.Members; m++ {
					x := made(t, g, 60, n%2 == 0)
					x.mark(m, true, row)
					x.run(writing(firsts(g, row, n)...))
					x.run("settle")
					for _, block := range firsts(g, row, g.Members-1) {
						x.run("read." + strconv.Itoa(block))
					}
				}
			}
		}
	}
}

// wantBlocks wants these blocks, of equal ones the last, to be read.
func (x *pair) wantBlocks(puts []api.Put) {
	x.t.Helper()
	want := map[int]string{}
	for _, p := range puts {
		want[p.Block] = string(p.Data)
	}
	for block, data := range want {
		if got, u := x.read(block); u != noTrouble() || string(got) != data {
			x.t.Fatalf("block %d: %x, %v; want %x", block, got, u, data)
		}
	}
}

// Of equal blocks the last one is written, and they count as one; the order of the blocks means nothing.
func TestWriteOfEqualBlocks(t *testing.T) {
	for _, lazy := range []bool{false, true} {
		x := made(t, four(), 20, lazy)
		l := x.puts(5, 0, 5, 3, 0, 5)
		if u := x.write(l); u != noTrouble() {
			t.Fatalf("Write: %v", u)
		}
		x.wantBlocks(l)
		x.wantJournal(2*5+1, 2, !lazy) // row 0 has block 0; row 1 has the blocks 3 and 5
		x.run("settle")
		x.wantBlocks(l)
		x.wantBlocks(l[2:])
	}
}

// 256 puts are a batch, if they fit; one more is none, whatever they are.
func TestWriteOfManyPuts(t *testing.T) {
	x := made(t, shape(16, 16, 2), 2048, false)
	x.run(writing(slices.Repeat([]int{0}, 256)...))
	x.wantJournal(5, 2, true)
	x.call(writing(slices.Repeat([]int{0}, 257)...), 0, api.ErrArg)
	x.call(writing(append(slices.Repeat([]int{0}, 256), -1)...), 0, api.ErrArg)
	all := []int{}
	for block := range 256 {
		all = append(all, 255-block)
	}
	x.run(writing(all...)) // 240 blocks are all of 16 rows; 16 more are in other rows
	x.wantJournal(5+2*(256+32)+1, 3, true)
	x.call(writing(append(all, 0)...), 0, api.ErrArg)
}

// refusal is a batch that is no batch.
type refusal struct {
	puts []api.Put
	slot int
	e    api.Errno
}

// refusals are batches that no Rows of three() with a ring of 10 writes, with what is told of each.
func refusals(x *pair) map[string]refusal {
	short, long := api.Put{Block: 1, Data: full(1)[:127]}, api.Put{Block: 1, Data: append(full(1), 0)}
	one := x.puts(0)
	return map[string]refusal{
		"too many":           {slices.Repeat(one, 257), 0, api.ErrArg},
		"too many, and else": {append(slices.Repeat(one, 255), short, api.Put{Block: 4}), 0, api.ErrArg},
		"block -1":           {x.puts(-1), 0, api.ErrRange},
		"block 4":            {x.puts(0, 4), 0, api.ErrRange},
		"far blocks":         {x.puts(1 << 32), 0, api.ErrRange},
		"block 4 behind all": {x.puts(0, 1, 2, 3, 4), 0, api.ErrRange},
		"short, and block 4": {append([]api.Put{short}, x.puts(4)...), 0, api.ErrRange},
		"short":              {append(one, short), 0, api.ErrLength},
		"long":               {append([]api.Put{long}, one...), 0, api.ErrLength},
		"no bytes":           {[]api.Put{{Block: 3}}, 0, api.ErrLength},
		"short, then whole":  {append([]api.Put{short}, x.puts(1)...), 0, api.ErrLength},
		"short, and too big": {append(x.puts(0, 1, 2, 3), short), 0, api.ErrLength},
		"too big":            {x.puts(0, 1, 2), 0, api.ErrTooLarge},
		"all":                {x.puts(3, 2, 1, 0), 0, api.ErrTooLarge},
	}
}

// Nothing is done, whatever state all is in; what waited waits on, and the last Write is another one now.
func TestRefusedWrites(t *testing.T) {
	for _, marks := range []string{"", "down.0.0", "down.0.0 down.1.0", "down.0.1 down.1.1 down.2.1"} {
		for _, state := range []string{"", "write.0", "write.0 write.1", "write.0 settle"} {
			for _, lazy := range []bool{false, true} {
				for name, c := range refusals(made(t, three(), 10, lazy)) {
					x := made(t, three(), 10, lazy)
					x.run(state)
					x.run(marks)
					pending, journal, before := x.r.Pending(), faceOf(x.w), x.b.Counts()
					for range 2 {
						if u := x.write(c.puts); u != (api.Trouble{Slot: c.slot, Err: c.e}) {
							t.Fatalf("%s: %v; want %v", name, u, c.e)
						}
						if x.b.Counts() != before || faceOf(x.w) != journal {
							t.Fatalf("%s: %v operations, %v", name, x.b.Counts(), faceOf(x.w))
						}
						x.wantState(false, pending)
						x.trip(0)
						x.barrier()
					}
				}
			}
		}
	}
}

// No puts are no batch, and no trouble: with a journal or without one, broken or not.
func TestWriteOfNothing(t *testing.T) {
	for _, ring := range []int{0, 5, 10} {
		for _, lazy := range []bool{false, true} {
			x := made(t, three(), ring, lazy)
			x.spend("write", 0, 0, 0)
			x.wantState(false, 0)
			x.try("write.0")
			pending := x.r.Pending()
			x.spend("write", 0, 0, 0)
			x.wantState(false, pending)
			x.run("down.0.0 down.1.0")
			x.fail(3)
			x.try("settle")
			x.trip(0)
			x.spend("write", 0, 0, 0)
			x.wantState(false, pending)
			if x.write([]api.Put{}) != noTrouble() {
				t.Errorf("an empty list has a trouble")
			}
		}
	}
}

// Without a journal nothing is written; what the batch itself lacks is told ahead of that, and how great it is behind it.
func TestWriteWithoutAJournal(t *testing.T) {
	for _, lazy := range []bool{false, true} {
		for name, c := range refusals(made(t, three(), 10, lazy)) {
			if c.e == api.ErrTooLarge {
				c.slot, c.e = 3, api.ErrReadOnly
			}
			x := made(t, three(), 0, lazy)
			if u := x.write(c.puts); u != (api.Trouble{Slot: c.slot, Err: c.e}) {
				t.Errorf("%s: %v; want %v", name, u, c.e)
			}
		}
		x := made(t, three(), 0, lazy)
		for _, marks := range []string{"", "down.0.0", "down.1.0"} {
			x.run(marks)
			x.spendTrouble("write.0", 3, api.ErrReadOnly, 0, 0, 0)
			x.wantState(false, 0)
		}
		x.trip(0)
		x.spendTrouble("write.0", 3, api.ErrReadOnly, 0, 0, 0)
		x = made(t, shape(16, 1, 2), 0, lazy)
		x.spendTrouble("write.0", 16, api.ErrReadOnly, 0, 0, 0)
	}
}

// A batch is too large by its blocks alone: not by who is down, nor by what the journal has.
func TestWriteThatIsTooLarge(t *testing.T) {
	for _, c := range []struct {
		call string
		most int
	}{
		{"write.0", 2}, {"write.0.0.0", 2}, {"write.0.2", 3}, {"write.0.1", 4}, {"write.0.2.4", 4}, {"write.0.6", 4},
		{"write.0.1.2.3", 6}, {"write.0.2.4.1.3.5", 8}, {"write.0.6.12.18.24", 10},
	} {
		for _, marks := range []string{"", "down.0.0", "down.3.0", "down.1.0"} {
			for _, before := range []string{"", "write.29", "write.29 write.29", "write.29 settle"} {
				for ring := max(5, 2*c.most-2); ring <= 2*c.most+3; ring++ {
					x := made(t, four(), ring, true)
					x.run(marks)
					x.run(before)
					if ring < 2*c.most+1 {
						x.spendTrouble(c.call, 0, api.ErrTooLarge, 0, 0, 0)
					} else {
						x.run(c.call)
					}
				}
			}
		}
	}
}

// The journal is emptied if the most that a batch takes doesn't fit what is free, even where the batch itself would.
func TestWriteMakesRoom(t *testing.T) {
	x := made(t, three(), 10, false)
	x.run("write.0")
	x.wantWrite("write.1", 1, 2) // just fits
	x.wantJournal(10, 3, true)
	x.spend("write.2", 1, 3*2+1+1, 3+1+2) // a checkpoint and its flush, and those of the members
	x.wantJournal(5, 4, true)

	x = made(t, three(), 9, false)
	x.run("write.0") // 4 places are free, which is one too few
	x.spend("write.1", 1, 3*2+1+1, 3+1+2)
	x.wantJournal(5, 3, true)

	x = made(t, three(), 11, false)
	x.run("down.0.0 write.0 write.1")
	x.wantJournal(3+5, 3, true)
	x.spend("write.0", 1, 3*1+1+1, 2+1+2) // 3 places are free, which would do, as it has one patch
	x.wantJournal(3, 4, true)

	x = made(t, three(), 10, true)
	x.run("write.0 write.1")
	x.wantState(true, 2)
	x.spend("write.2", 1, 2+1+5, 1+3+1+1) // first what waits is made sure and placed
	x.wantState(true, 2)
	x.wantJournal(5, 4, false)
}

// A trouble while room is made is that of the Write; what was placed by then stays so.
func TestWriteWithoutRoom(t *testing.T) {
	for n, c := range []struct{ slot, pending int }{
		{3, 2}, {0, 2}, {2, 2}, {0, 0}, {1, 0}, {2, 0}, {3, 0}, {3, 0}, {0, 0},
	} {
		x := made(t, three(), 10, true)
		x.run("write.0 write.0")
		x.trip(n)
		x.call("write.2", c.slot, api.ErrBayDark)
		x.wantState(false, c.pending)
	}
}

// The rows are planned one after the other: behind the first one that is lost nothing is read, and nothing is logged.
func TestWriteOfALostRow(t *testing.T) {
	for from, reads := range []int{0, 2} { // row 0 is read twice for block 0
		x := made(t, four(), 40, true)
		x.run("write.25")
		x.mark(1, true, from)
		x.mark(2, true, from)
		x.spendTrouble("write.3.1.0", 0, api.ErrPlanLost, reads, 0, 0)
		x.wantState(false, 2)
		x.wantJournal(5, 2, false)
	}
	x := made(t, four(), 40, true)
	x.run("write.25 down.1.2 down.2.2")
	x.wantWrite("write.3.1.0", 3, 5) // and row 1 once for the blocks 1 and 3
	x.spendTrouble("write.6", 0, api.ErrPlanLost, 0, 0, 0)
	x.wantState(false, 5)
}

// Two that are down at a row are lost for a Write, though all of their sectors there wait.
func TestWriteOfALostRowThatWaits(t *testing.T) {
	x := made(t, three(), 20, true)
	x.run("write.0.1 down.0.0 down.1.0")
	x.run("read.0 read.1")
	x.spendTrouble("write.0", 0, api.ErrPlanLost, 0, 0, 0)
	x.spendTrouble("write.0.1", 0, api.ErrPlanLost, 0, 0, 0)
	x.wantState(false, 3)
	x.run("up.1")
	x.spend("write.0", 0, 3+2, 1) // the parity of what waits; member 0 is skipped
	x.wantState(true, 1)
}

// What waits is what is read for the next batch, and is placed ahead of its seal.
func TestWriteBehindWhatWaits(t *testing.T) {
	x := made(t, four(), 40, true)
	x.run("write.0")
	x.spend("write.0", 0, 4+2+1, 1)
	x.wantState(true, 2)
	x.spend("write.2", 1, 4+2+1, 1) // the parity waits, and member 1 is read
	x.spend("write.0", 1, 4+2+1, 1)
	x.spend("settle", 0, 2, 1)
	x.run("write.0 down.0.0")
	x.spend("write.0", 2, 2+1+1, 1) // of what waits only the parity is placed
	x.wantState(true, 1)
	x.run("read.0")
}

// One operation after the other: a sector is read, the batch logged and flushed, what waits placed, and the batch sealed.
func TestStepsOfALazyWrite(t *testing.T) {
	for n, c := range []struct {
		slot, pending int
		sure          bool
		cached        [5]int // how many writes there are in the slots' caches
	}{
		{1, 2, false, [5]int{4: 1}}, // there is the seal of the batch ahead
		{4, 2, false, [5]int{4: 1}},
		{4, 2, false, [5]int{4: 2}},
		{4, 2, false, [5]int{4: 3}},
		{4, 2, false, [5]int{4: 4}},
		{4, 2, false, [5]int{4: 5}},
		{0, 2, true, [5]int{}},
		{3, 2, true, [5]int{0: 1}},
		{4, 0, true, [5]int{0: 1, 3: 1}},
	} {
		x := made(t, four(), 20, true)
		x.run("write.0")
		x.trip(n)
		x.call("write.2", c.slot, api.ErrBayDark)
		x.wantState(false, c.pending)
		x.wantJournal(5, 2, c.sure)
		for slot, cached := range c.cached {
			if l := x.b.Pending(slot); len(l) != cached {
				t.Errorf("operation %d: slot %d has the writes %v in its cache; want %d", n, slot, l, cached)
			}
		}
	}
}

// A journal whose numbers have come to their end tells so, and it is its trouble.
func TestWriteBehindTheLastNumber(t *testing.T) {
	x := made(t, three(), 10, false)
	sector, _ := record.EncodeCheck(api.Check{Epoch: 1, Seq: api.MaxCount, Tail: 3})
	x.lay(3, 1, sector)
	x.w, _, _ = wal.Open(x.b, 3, 10)
	x.p.w, _, _ = wal.Open(x.p.b, 3, 10)
	x.r, _ = rows.New(x.b, x.g, x.w, false)
	x.p = plainNew(x.p.b, x.g, x.p.w, false)
	x.run("write.0")
	x.wantJournal(5, api.MaxCount+1, true)
	x.spendTrouble("write.0", 3, api.ErrRange, 1, 0, 0)
	x.wantState(false, 0)
	x.spendTrouble("empty", 3, api.ErrRecordForm, 0, 0, 3)
	x.spendTrouble("write.2.0", 3, api.ErrRecordForm, 0, 0, 3) // it needs 9 places
}

// What stands elsewhere stays, whatever is written.
func TestWriteLeavesTheRest(t *testing.T) {
	x := made(t, four(), 20, false)
	was := map[spot]string{}
	for m := range 4 {
		for at := range 12 {
			was[spot{m, at}] = string(x.stands(m, at))
		}
	}
	x.run("write.0.29 barrier")
	for at, data := range was {
		written := at.row == 1 && (at.member == 0 || at.member == 3) || at.row == 10 && at.member >= 2
		if (string(x.stands(at.member, at.row)) == data) == written {
			t.Errorf("sector %d of member %d", at.row, at.member)
		}
	}
}

// Long scripts of writes, in rings in which few batches fit.
func TestWriteAgainAndAgain(t *testing.T) {
	for _, lazy := range []bool{false, true} {
		for ring := 9; ring <= 30; ring += 3 {
			x := made(t, four(), ring, lazy)
			x.run(strings.Repeat("write.0 write.1.29 write.6 read.0 read.7 ", 8))
			x.run("empty")
			x.wantJournal(0, 25, true)
		}
	}
}
