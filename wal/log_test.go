package wal_test

import (
	"math"
	"slices"
	"strconv"
	"strings"
	"testing"

	"spindle/api"
	"spindle/scan"
	"spindle/wal"
)

func TestCost(t *testing.T) {
	for n := 1; n <= 1023; n++ {
		if got := wal.Cost(n); got != n+n+1 {
			t.Errorf("Cost(%d): %d", n, got)
		}
	}
	for _, n := range []int{0, -1, -2, -1023, 1024, 1025, 2047, 2048, 1<<16 + 1, 1 << 31, 1<<32 + 1, 1 << 62, math.MaxInt, math.MinInt, math.MinInt + 1} {
		if got := wal.Cost(n); got != 0 {
			t.Errorf("Cost(%d): %d", n, got)
		}
	}
}

// tailed is a journal whose checkpoint has this number and this tail.
func tailed(t *testing.T, size int, epoch, seq uint64, tail int) *pair {
	t.Helper()
	x := formatted(t, size, epoch)
	x.wantChecked(checkpoint(epoch, seq, tail), api.OK)
	x.wantFace(0, seq, true)
	return x
}

// behind are n sectors that stand one behind the other from a place on, in a ring of this size.
func behind(size, place, n int) []int {
	l := []int{}
	for range n {
		l = append(l, 2+place)
		place++
		if place == size {
			place = 0
		}
	}
	return l
}

// wantStanding wants a batch to stand in the ring from a place on, with or without its commit.
func (x *pair) wantStanding(place int, epoch, seq uint64, l []api.Patch, sealed bool) {
	x.t.Helper()
	sectors, _ := scan.Sectors(epoch, api.Txn{Seq: seq, Patches: l})
	now := x.durable()
	for i, at := range behind(x.size, place, len(sectors)) {
		stands := now[at] == string(sectors[i])
		if stands != (i < len(sectors)-1 || sealed) {
			x.t.Errorf("ring %d: sector %d, that is %d of the batch at place %d: %v", x.size, at, i, place, stands)
		}
	}
}

// In rings of each small size, from each place on, batches of each length: where the sectors go, behind each number of operations.
func TestLogInOrder(t *testing.T) {
	for size := 5; size <= 9; size++ {
		for tail := range size {
			for n := 1; 2*n+1 <= size; n++ {
				for operations := range 2*n + 1 {
					x := tailed(t, size, 4, 7, tail)
					x.trip(operations)
					x.log(n, api.ErrBayDark)
					if l := x.b.Pending(1); !slices.Equal(l, behind(size, tail, operations)) {
						t.Errorf("ring %d, tail %d, %d patches: sectors %v behind %d operations", size, tail, n, l, operations)
					}
					x.cut(bools(operations, true)...)
					if operations == 2*n {
						x.wantStanding(tail, 4, 7, batch(x.serial, n), false)
					}
				}
				x := tailed(t, size, 4, 7, tail)
				x.wantSpent("Log", 0, 2*n, 1, func() { x.log(n, api.OK) })
				x.wantFace(0, 7, true)
				x.wantStanding(tail, 4, 7, batch(x.serial, n), false)
				x.wantSpent("Seal", 0, 1, 0, func() { x.seal(api.OK) })
				if l := x.b.Pending(1); !slices.Equal(l, behind(size, tail, 2*n+1)[2*n:]) {
					t.Errorf("ring %d, tail %d, %d patches: sectors %v are sealed", size, tail, n, l)
				}
				x.wantFace(2*n+1, 8, false)
				x.wantSpent("Sync", 0, 0, 1, func() { x.sync(api.OK) })
				x.wantFace(2*n+1, 8, true)
				x.wantStanding(tail, 4, 7, batch(x.serial, n), true)
			}
		}
	}
}

// A batch is laid behind those that are sealed, with the next number.
func TestLogBehindOthers(t *testing.T) {
	for size := 9; size <= 13; size++ {
		for tail := range size {
			x := tailed(t, size, 4, 7, tail)
			first := x.log(1, api.OK)
			x.seal(api.OK)
			second := x.log(2, api.OK)
			x.wantFace(3, 8, true)
			x.run("seal sync")
			x.wantFace(8, 9, true)
			x.wantStanding(tail, 4, 7, first, true)
			x.wantStanding((tail+3)%size, 4, 8, second, true)
			x.cut()
			if l := x.open(api.OK); len(l) != 2 || !samePatches(l[0].Patches, first) || !samePatches(l[1].Patches, second) {
				t.Errorf("ring %d, tail %d: %s", size, tail, told(l))
			}
		}
	}
}

// wantRefused wants a batch to be refused without an operation, and the one that was logged before to stay logged.
func (x *pair) wantRefused(l []api.Patch, want api.Errno) {
	x.t.Helper()
	was := faceOf(x.w)
	x.wantSpent("Log", 0, 0, 0, func() { x.logThese(l, want) })
	if faceOf(x.w) != was {
		x.t.Errorf("Log that is refused: %v; want %v", faceOf(x.w), was)
	}
}

// With each number of places in use, each length: too large for the ring, or for what is left of it.
func TestLogOfEachLength(t *testing.T) {
	for size := 5; size <= 12; size++ {
		for _, script := range []string{"", "log1 seal", "log2 seal", "log1 seal log1 seal", "log3 seal", "log1 seal log2 seal", "log4 seal", "log2 seal log2 seal"} {
			if placesOf(script) > size {
				continue
			}
			for n := 1; n <= size; n++ {
				x := tailed(t, size, 4, 7, size-1)
				x.run(script)
				left := size - x.w.Used()
				switch {
				case 2*n+1 > size:
					x.wantRefused(batch(99, n), api.ErrTooLarge)
				case 2*n+1 > left:
					x.wantRefused(batch(99, n), api.ErrWalFull)
				default:
					x.logThese(batch(99, n), api.OK)
					x.run("seal sync")
				}
			}
		}
	}
}

// placesOf is how many places the batches of a script have.
func placesOf(script string) int {
	places := 0
	for _, name := range strings.Fields(script) {
		if digits, ok := strings.CutPrefix(name, "log"); ok {
			n, _ := strconv.Atoi(digits)
			places += 2*n + 1
		}
	}
	return places
}

// Just as many patches as the ring has places for, and one more.
func TestLogOfTheGreatestBatches(t *testing.T) {
	for _, size := range []int{5, 6, 99, 100, 2045, 2046, 2047, 2048} {
		most := (size - 1) / 2
		x := tailed(t, size, 4, 7, size-2)
		want := api.ErrTooLarge
		if most == 1023 {
			want = api.ErrArg
		}
		x.wantRefused(batch(1, most+1), want)
		l := x.log(most, api.OK)
		x.run("seal sync")
		x.wantFace(2*most+1, 8, true)
		x.cut()
		if found := x.open(api.OK); !sameTxns(found, []api.Txn{{Seq: 7, Patches: l}}) {
			t.Errorf("ring %d: %s", size, told(found))
		}
		x.wantRefused(batch(1, 1), api.ErrWalFull)
		x.wantRefused(batch(1, most+1), want)
		x.run("reclaim log1 seal sync reclaim log1 seal")
	}
}

func TestLogOfNoBatch(t *testing.T) {
	for _, size := range []int{5, 10, 2048} {
		x := formatted(t, size, 4)
		for _, l := range [][]api.Patch{nil, {}, make([]api.Patch, 0, 4), batch(1, 1024), batch(1, 1025), batch(1, 2048), make([]api.Patch, 70000)} {
			x.wantRefused(l, api.ErrArg)
		}
	}
}

// wrong is a batch with another patch for one of its patches.
func wrong(n, i int, p api.Patch) []api.Patch {
	l := batch(5, n)
	l[i] = p
	return l
}

func TestLogOfPatchesThatMayNotBeWritten(t *testing.T) {
	wild := []int{-1, -2, 1 << 16, 1 << 31, 1 << 32, 1<<32 + 1, -1 << 32, math.MaxInt, math.MinInt}
	x := formatted(t, 10, 4)
	x.run("log1 seal")
	for _, i := range []int{0, 1, 2} {
		for _, member := range append(wild, 16, 17, 255, 256) {
			x.wantRefused(wrong(3, i, api.Patch{Member: member, Row: 1, Data: full(1)}), api.ErrRange)
		}
		for _, row := range append(wild, 4096, 4097, 8192) {
			x.wantRefused(wrong(3, i, api.Patch{Member: 1, Row: row, Data: full(1)}), api.ErrRange)
		}
		for _, bytes := range []int{0, 1, 127, 129, 256, 1 << 16} {
			x.wantRefused(wrong(3, i, api.Patch{Member: 1, Row: 1, Data: make([]byte, bytes)}), api.ErrLength)
		}
		x.wantRefused(wrong(3, i, api.Patch{Member: 1, Row: 1}), api.ErrLength)
	}
	x.logThese(wrong(3, 1, api.Patch{Member: 15, Row: 4095, Data: full(1)}), api.OK)
	x.run("seal sync")
}

// What may not be written at all is told ahead of what is too large, and that ahead of what is too large for what is left.
func TestOrderOfLogErrors(t *testing.T) {
	noMember, noRow := api.Patch{Member: 16, Data: full(1)}, api.Patch{Row: 4096, Data: full(1)}
	short, none := api.Patch{Data: full(1)[:127]}, api.Patch{Member: -1, Row: -1}
	for _, script := range []string{"", "log1", "log1 seal", "log1 seal log1 seal log1 seal", "log1 seal log2 seal"} {
		x := formatted(t, 10, 4)
		x.run(script)
		for _, n := range []int{2, 4, 5, 6, 512, 1023} {
			x.wantRefused(wrong(n, n-1, noMember), api.ErrRange)
			x.wantRefused(wrong(n, 0, noRow), api.ErrRange)
			x.wantRefused(wrong(n, n-1, short), api.ErrLength)
			x.wantRefused(append([]api.Patch{short}, wrong(n-1, n-2, noRow)...), api.ErrRange)
			x.wantRefused(append([]api.Patch{none}, batch(1, n-1)...), api.ErrRange)
		}
		for _, n := range []int{1024, 1025, 2048} {
			x.wantRefused(wrong(n, 0, noMember), api.ErrArg)
			x.wantRefused(wrong(n, n-1, short), api.ErrArg)
		}
		for _, n := range []int{5, 6, 512, 1023} {
			x.wantRefused(batch(1, n), api.ErrTooLarge)
		}
		if x.w.Used() > 1 {
			x.wantRefused(batch(1, 4), api.ErrWalFull)
		}
	}
}

// There are no numbers above 2^62; that there is no batch is told ahead of it, and all else behind it.
func TestLogBehindTheLastNumber(t *testing.T) {
	x := tailed(t, 10, 4, greatest, 8)
	x.run("log1 seal")
	x.wantFace(3, greatest+1, false)
	for _, l := range [][]api.Patch{batch(1, 1), batch(1, 4), batch(1, 5), wrong(2, 0, api.Patch{Data: full(1)[:5]})} {
		x.wantRefused(l, api.ErrRange)
	}
	x.wantRefused(nil, api.ErrArg)
	x.wantRefused(batch(1, 1024), api.ErrArg)
	x.seal(api.ErrArg)
	x.sync(api.OK)
	x.cut()
	if l := x.open(api.OK); len(l) != 1 || l[0].Seq != greatest {
		t.Errorf("%s", told(l))
	}
	x.wantFace(3, greatest+1, true)
	x.wantRefused(batch(1, 1), api.ErrRange)
}

// A refusal leaves the batch that was logged before: Seal seals that one.
func TestRefusedLogDiscardsNothing(t *testing.T) {
	for _, l := range [][]api.Patch{nil, batch(1, 1024), wrong(2, 1, api.Patch{Member: 16, Data: full(1)}), wrong(2, 1, api.Patch{}), batch(1, 5), batch(1, 4)} {
		x := formatted(t, 10, 4)
		x.run("log1 seal sync")
		kept := x.log(2, api.OK)
		x.w.Log(l)
		x.run("seal sync")
		x.wantFace(8, 3, true)
		x.cut()
		if found := x.open(api.OK); len(found) != 2 || !samePatches(found[1].Patches, kept) {
			t.Errorf("behind a Log of %d patches: %s", len(l), told(found))
		}
	}
}

// A Log discards the batch that was logged and not sealed: its places are overwritten, and its number is that of the other one.
func TestLogBehindLog(t *testing.T) {
	for tail := range 10 {
		for first := 1; first <= 4; first++ {
			for second := 1; second <= 4; second++ {
				x := tailed(t, 10, 4, 7, tail)
				x.log(first, api.OK)
				x.wantFace(0, 7, true)
				x.wantSpent("Log", 0, 2*second, 1, func() { x.log(second, api.OK) })
				l := batch(x.serial, second)
				x.wantFace(0, 7, true)
				x.wantStanding(tail, 4, 7, l, false)
				x.run("seal sync")
				x.wantFace(2*second+1, 8, true)
				x.seal(api.ErrArg)
				x.cut()
				if found := x.open(api.OK); !sameTxns(found, []api.Txn{{Seq: 7, Patches: l}}) {
					t.Errorf("tail %d, %d and %d patches: %s", tail, first, second, told(found))
				}
			}
		}
	}
	x := formatted(t, 10, 4) // the same batch, and a third one
	x.logThese(batch(1, 3), api.OK)
	x.logThese(batch(1, 3), api.OK)
	x.logThese(batch(1, 2), api.OK)
	x.run("seal log1 log1 seal sync")
	x.wantFace(8, 3, true)
}

// A Log makes the batch that was sealed before sure.
func TestLogMakesSure(t *testing.T) {
	for _, n := range []int{1, 2, 3} {
		x := formatted(t, 10, 4)
		l := x.log(1, api.OK)
		x.seal(api.OK)
		x.wantFace(3, 2, false)
		x.log(n, api.OK)
		x.wantFace(3, 2, true)
		x.wantSpent("Sync", 0, 0, 0, func() { x.sync(api.OK) })
		x.cut()
		if found := x.open(api.OK); !sameTxns(found, []api.Txn{{Seq: 1, Patches: l}}) {
			t.Errorf("behind Log of %d patches: %s", n, told(found))
		}
	}
}
