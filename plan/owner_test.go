package plan_test

import (
	"slices"
	"sync"
	"testing"

	"spindle/api"
	"spindle/plan"
)

// scribble writes all over bytes and behind them.
func scribble(b []byte) {
	b = b[:cap(b)]
	for i := range b {
		b[i] = ^b[i]
	}
}

// ruin writes all over patches, their bytes, and what is behind them.
func ruin(l []api.Patch) {
	for _, p := range l {
		scribble(p.Data)
	}
	l = l[:cap(l)]
	for i := range l {
		l[i] = api.Patch{Member: -7, Row: 1 << 40}
	}
}

func ruinReads(l []int) {
	l = l[:cap(l)]
	for i := range l {
		l[i] = -9
	}
}

// roomy are bytes with room behind them.
func roomy(b []byte) []byte { return append(make([]byte, 0, 300), b...) }

// batch is one with equal blocks, with unlike ones, and with several that share their bytes.
func batch() []api.Put {
	l := puts(6, 0, 8, 0, 29, 1, 2, 6, 11)
	long := bytesOf(5, 300)
	return append(l, api.Put{Block: 20, Data: long[:128]}, api.Put{Block: 21, Data: long[:128]}, api.Put{Block: 22, Data: long[64:192]})
}

func TestSplitLeavesTheBatch(t *testing.T) {
	wrong := batch()
	wrong[4].Data = wrong[4].Data[:100]
	beyond := append(batch(), put(30, 1))
	for _, l := range [][]api.Put{batch(), wrong, beyond, slices.Repeat(batch(), 30)} {
		was := copyOfPuts(l)
		plan.Split(example(), l)
		plan.Most(example(), l)
		plan.Split(api.Geometry{}, l)
		if !samePuts(l, was) {
			t.Errorf("a batch of %d was changed", len(l))
		}
	}
}

func TestSplitKeepsNothingOfTheBatch(t *testing.T) {
	g, l := example(), batch()
	was := copyOfPuts(l)
	rows := wantSplit(t, g, l)
	want := plainSplit(g, was)
	for i := range l {
		scribble(l[i].Data)
		l[i] = api.Put{Block: -1}
	}
	if !sameRows(rows, want) {
		t.Errorf("the rows are others now: %s; want %s", toldRows(rows), toldRows(want))
	}
	wantSplit(t, g, was)
}

// No two lists of what came out share anything, nor the room behind them.
func TestRowsAreTheirOwners(t *testing.T) {
	g, l := example(), batch()
	kept, other := wantSplit(t, g, l), wantSplit(t, g, l)
	want := copyOfRows(kept)
	for _, row := range other {
		ruin(row)
	}
	clear(other[:cap(other)])
	for i, row := range kept {
		if !sameRows(kept[i:], want[i:]) {
			t.Fatalf("the rows are others now: %s; want %s", toldRows(kept[i:]), toldRows(want[i:]))
		}
		for j, p := range row {
			if !samePatches(row[j:], want[i][j:]) {
				t.Fatalf("the patches are others now: %s; want %s", told(row[j:]), told(want[i][j:]))
			}
			scribble(p.Data)
		}
		ruin(row)
	}
	wantSplit(t, g, l)
}

func TestOfLeavesWhatComesIn(t *testing.T) {
	g, d := of(5, 1, 5), down(5, 2)
	for _, l := range [][]api.Patch{patches(1, 0, 2, 4), patches(1, 4, 2), patches(1, 3), patches(0, 0, 9), nil} {
		was, wasDown := copyOfPatches(l), slices.Clone(d)
		plan.Of(g, d, l)
		plan.Of(g, d[:4], l)
		plan.Of(api.Geometry{}, d, l)
		if !samePatches(l, was) || !slices.Equal(d, wasDown) {
			t.Errorf("Of has changed what came in: %s, %v", told(l), d)
		}
	}
}

func TestOfKeepsNothingOfWhatComesIn(t *testing.T) {
	g := of(5, 1, 5)
	for _, given := range subsets(withBlocks(g, 1)) {
		for gone := none; gone < 5; gone++ {
			d, l := down(5, gone), patches(1, given...)
			p := planned(t, g, d, l)
			want := copyOfPlan(p)
			ruin(l)
			for m := range d {
				d[m] = !d[m]
			}
			if !samePlan(p, want) {
				t.Errorf("the plan is another one now: %s; want %s", toldPlan(p), toldPlan(want))
			}
		}
	}
}

func TestPlansAreTheirOwners(t *testing.T) {
	g := of(5, 1, 5)
	for _, given := range subsets(withBlocks(g, 1)) {
		for gone := none; gone < 5; gone++ {
			d, l := down(5, gone), patches(1, given...)
			was := copyOfPatches(l)
			kept, other := planned(t, g, d, l), planned(t, g, d, l)
			want := copyOfPlan(kept)
			ruin(other.Puts)
			ruinReads(other.Reads)
			if !samePlan(kept, want) || !samePatches(l, was) {
				t.Errorf("the plan is another one now: %s; want %s", toldPlan(kept), toldPlan(want))
			}
			for i, p := range kept.Puts {
				if !samePatches(kept.Puts[i:], want.Puts[i:]) {
					t.Errorf("the patches are others now: %s", told(kept.Puts))
				}
				scribble(p.Data)
			}
			ruinReads(kept.Reads)
			if !samePlan(planned(t, g, d, l), want) {
				t.Error("a later plan is another one")
			}
		}
	}
}

func TestWorkLeavesWhatComesIn(t *testing.T) {
	g := of(5, 1, 5)
	for _, given := range subsets(withBlocks(g, 1)) {
		for gone := none; gone < 5; gone++ {
			d, read := down(5, gone), sectors(5)
			p := planned(t, g, d, patches(1, given...))
			p.Puts, p.Reads = append(make([]api.Patch, 0, 9), p.Puts...), append(make([]int, 0, 9), p.Reads...)
			was, wasRead, wasDown := copyOfPlan(p), copyOfSectors(read), slices.Clone(d)
			plan.Work(g, d, p, read)
			plan.Work(g, d, p, read[:4])
			plan.Work(g, d, p, only(read, 0))
			plan.Work(api.Geometry{}, d, p, read)
			if !samePlan(p, was) || !sameSectors(read, wasRead) || !slices.Equal(d, wasDown) {
				t.Errorf("Work has changed what came in: %s", toldPlan(p))
			}
			if room := p.Puts[len(p.Puts):9]; slices.ContainsFunc(room, func(x api.Patch) bool { return x.Member != 0 || x.Row != 0 || x.Data != nil }) {
				t.Errorf("behind the patches there is something now: %s", told(room))
			}
			if room := p.Reads[len(p.Reads):9]; slices.ContainsFunc(room, func(m int) bool { return m != 0 }) {
				t.Errorf("behind the members there is something now: %v", room)
			}
		}
	}
}

func TestWorkKeepsNothingOfWhatComesIn(t *testing.T) {
	g := of(5, 1, 5)
	for _, given := range subsets(withBlocks(g, 1)) {
		for gone := none; gone < 5; gone++ {
			d, read := down(5, gone), sectors(5)
			p := planned(t, g, d, patches(1, given...))
			want := plainWork(g, gone, copyOfPatches(p.Puts), copyOfSectors(read))
			work := wantWork(t, g, d, p, read, want)
			ruin(p.Puts)
			ruinReads(p.Reads)
			for m := range read {
				scribble(read[m])
				d[m] = !d[m]
			}
			if !samePatches(work, want) {
				t.Errorf("what came out is something else now: %s; want %s", told(work), told(want))
			}
		}
	}
}

func TestWorkIsItsOwners(t *testing.T) {
	g := of(5, 1, 5)
	for _, given := range subsets(withBlocks(g, 1)) {
		for gone := none; gone < 5; gone++ {
			d, read := down(5, gone), sectors(5)
			p := planned(t, g, d, patches(1, given...))
			was, wasRead := copyOfPlan(p), copyOfSectors(read)
			want := plainWork(g, gone, was.Puts, wasRead)
			kept, other := wantWork(t, g, d, p, read, want), wantWork(t, g, d, p, read, want)
			ruin(other)
			for i, x := range kept {
				if !samePatches(kept[i:], want[i:]) {
					t.Errorf("what came out is something else now: %s; want %s", told(kept[i:]), told(want[i:]))
				}
				scribble(x.Data)
			}
			ruin(kept)
			if !samePlan(p, was) || !sameSectors(read, wasRead) {
				t.Errorf("what came in is something else now: %s", toldPlan(p))
			}
			wantWork(t, g, d, p, read, want)
		}
	}
}

func TestSolveLeavesAndKeepsNothing(t *testing.T) {
	for members := 3; members <= 16; members++ {
		g, read := of(members, 1, 2), sectors(members)
		for m := range members {
			was := copyOfSectors(read)
			want := plainSum(slices.Delete(copyOfSectors(read), m, m+1)...)
			kept, other := wantSolved(t, g, 1, m, read, want), wantSolved(t, g, 1, m, read, want)
			plan.Solve(g, 1, m, read[:members-1])
			plan.Solve(g, 2, m, read)
			scribble(other)
			if !slices.Equal(kept, want) || !sameSectors(read, was) {
				t.Fatalf("Solve of member %d of %d: something else is there now", m, members)
			}
			for i := range read {
				scribble(read[i])
			}
			if !slices.Equal(kept, want) {
				t.Fatalf("Solve of member %d of %d: what came out is something else now", m, members)
			}
		}
	}
}

// The room behind what comes in is neither told nor read.
func TestRoomBehindWhatComesIn(t *testing.T) {
	g := example()
	l := append(make([]api.Put, 0, 300), put(0, 1), put(3, 2))
	l[0].Data, l[1].Data = roomy(l[0].Data), roomy(l[1].Data)
	room := l[len(l):cap(l)]
	for i := range room {
		room[i] = put(-1, 3)
	}
	for _, row := range wantSplit(t, g, l) {
		for _, p := range row {
			scribble(p.Data)
		}
	}
	for _, p := range l {
		if slices.ContainsFunc(p.Data[128:300], func(c byte) bool { return c != 0 }) {
			t.Error("behind a block there is something now")
		}
	}
	if slices.ContainsFunc(room, func(p api.Put) bool { return p.Block != -1 || !slices.Equal(p.Data, data(3)) }) {
		t.Error("behind a batch there is something else now")
	}
	d := append(make([]bool, 0, 8), down(8)[:4]...)
	copy(d[4:8], []bool{true, true, true, true})
	wantPlan(t, g, d, patches(0, 0, 1, 2)[:2], api.ModeRest, 2)
	read := append(sectors(4), data(1))[:4]
	p := planned(t, g, d, patches(0, 0))
	wantWork(t, g, d, p, read, plainWork(g, none, p.Puts, read))
}

// Calls from many sides at once are no matter to one another.
func TestCallsFromManySides(t *testing.T) {
	g, l, read := example(), batch(), sectors(4)
	p := planned(t, g, down(4), patches(0, 0))
	rows, work := plainSplit(g, l), plainWork(g, none, p.Puts, read)
	var all sync.WaitGroup
	for range 8 {
		all.Go(func() {
			for range 50 {
				split, _ := plan.Split(g, l)
				own, _ := plan.Of(g, down(4), p.Puts)
				made, _ := plan.Work(g, down(4), p, read)
				b, _ := plan.Solve(g, 0, 1, read)
				if !sameRows(split, rows) || !samePlan(own, p) || !samePatches(made, work) || !slices.Equal(b, plainSum(read[0], read[2], read[3])) {
					t.Error("a call says something else")
				}
			}
		})
	}
	all.Wait()
}
