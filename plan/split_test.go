package plan_test

import (
	"math/rand"
	"slices"
	"testing"

	"spindle/api"
	"spindle/plan"
)

// blocksOf is how many blocks there are.
func blocksOf(g api.Geometry) int { return g.Stripes * g.Chunk * (g.Members - 1) }

// The chapter's first example.
func TestSplitExample(t *testing.T) {
	l := []api.Put{{Block: 2, Data: full(1)}, {Block: 0, Data: full(2)}, {Block: 1, Data: full(3)}, {Block: 0, Data: full(4)}}
	rows, e := plan.Split(example(), l)
	want := [][]api.Patch{
		{{Member: 0, Row: 0, Data: full(4)}, {Member: 1, Row: 0, Data: full(1)}},
		{{Member: 0, Row: 1, Data: full(3)}},
	}
	if e != api.OK || !sameRows(rows, want) {
		t.Errorf("Split: %s, %v; want %s", toldRows(rows), e, toldRows(want))
	}
	wantMost(t, example(), l, 5)
}

// Rows drawn by hand: the members in the order of their numbers, which isn't that of their blocks.
func TestSplitByMembersNotByBlocks(t *testing.T) {
	l := []api.Put{put(6, 1), put(8, 2), put(10, 3), put(12, 4), put(29, 5), put(16, 6), put(17, 7), put(15, 8)}
	rows, e := plan.Split(example(), l)
	want := [][]api.Patch{
		{{Member: 0, Row: 2, Data: data(2)}, {Member: 1, Row: 2, Data: data(3)}, {Member: 3, Row: 2, Data: data(1)}},
		{{Member: 0, Row: 4, Data: data(6)}, {Member: 2, Row: 4, Data: data(4)}},
		{{Member: 0, Row: 5, Data: data(7)}, {Member: 3, Row: 5, Data: data(8)}},
		{{Member: 2, Row: 9, Data: data(5)}},
	}
	if e != api.OK || !sameRows(rows, want) {
		t.Errorf("Split: %s, %v; want %s", toldRows(rows), e, toldRows(want))
	}
	wantMost(t, example(), l, 12)
}

func TestSplitOfNothing(t *testing.T) {
	for _, g := range some() {
		for _, l := range [][]api.Put{nil, {}, make([]api.Put, 0, 5)} {
			if rows, e := plan.Split(g, l); len(rows) != 0 || e != api.OK {
				t.Errorf("%+v: Split of nothing: %s, %v", g, toldRows(rows), e)
			}
			wantMost(t, g, l, 0)
		}
	}
}

// Each block by itself, where there are few of them, and otherwise the first ones, the last ones, and some between.
func TestSplitOfEachBlock(t *testing.T) {
	for _, g := range some() {
		n := blocksOf(g)
		for block := 0; block < n; block++ {
			wantSplit(t, g, puts(block))
			if block > 70 && block < n-70 {
				block += n / 50
			}
		}
	}
}

func TestSplitOfSizes(t *testing.T) {
	source := rand.New(rand.NewSource(1))
	for _, g := range some() {
		for _, n := range []int{1, 2, 3, 17, 255, 256} {
			l := []api.Put{}
			for i := range n {
				l = append(l, put(source.Intn(blocksOf(g)), i))
			}
			wantSplit(t, g, l)
			slices.SortFunc(l, func(a, b api.Put) int { return a.Block - b.Block })
			wantSplit(t, g, l)
			slices.Reverse(l)
			wantSplit(t, g, l)
		}
	}
}

// Unlike blocks: as many as a batch may have, one behind the other, and far apart.
func TestSplitOfUnlikeBlocks(t *testing.T) {
	for _, g := range some() {
		n := min(blocksOf(g), 256)
		apart := blocksOf(g) / n
		for _, step := range []int{1, apart} {
			l := []api.Put{}
			for i := range n {
				l = append(l, put(i*step, i))
			}
			rows := wantSplit(t, g, l)
			count := 0
			for _, row := range rows {
				count += len(row)
			}
			if count != n {
				t.Errorf("%+v: %d patches of %d blocks", g, count, n)
			}
		}
	}
}

// Of the greatest geometry 256 blocks in 256 rows make the most patches that any batch can.
func TestMostOfAll(t *testing.T) {
	g := of(16, 1, 256)
	one, row := []api.Put{}, []api.Put{}
	for i := range 256 {
		one = append(one, put(i*15+i%15, i))
		row = append(row, put(i, i))
	}
	wantMost(t, g, one, 512)
	wantMost(t, g, row, 256+18) // 17 rows of 15 blocks, and one block more
	wantMost(t, g, one[:1], 2)
	wantMost(t, g, row[:15], 16)
	wantMost(t, g, row[:16], 18)
	wantMost(t, g, row[14:16], 4)
}

// Of equal blocks the last one is written, however many there are, and whatever stands between them.
func TestSplitOfEqualBlocks(t *testing.T) {
	for _, g := range some() {
		last := blocksOf(g) - 1
		for _, l := range [][]int{
			{0, 0}, {0, 0, 0}, {last, last}, {last, last, last}, {0, last, 0}, {last, 0, last}, {0, 1, 0, 1, 0}, {1, 0, 0, 1}, {0, 0, 1, 1, last, last},
			{1, 1, 0}, {0, 1, 1, 0, 0, last, 0}, slices.Repeat([]int{1}, 256), slices.Repeat([]int{0, 1}, 128), slices.Repeat([]int{last, 1, 0, 1}, 64),
		} {
			wantSplit(t, g, puts(l...))
		}
	}
	same := put(3, 8)
	wantSplit(t, example(), []api.Put{same, same})
	wantSplit(t, example(), []api.Put{put(3, 7), same, put(3, 7)})
	wantMost(t, example(), []api.Put{same, same, same}, 2)
}

// A last block with zeros replaces what was given ahead of it, as any other does.
func TestSplitOfZeros(t *testing.T) {
	l := []api.Put{put(4, 1), {Block: 4, Data: full(0)}, {Block: 5, Data: full(0)}, put(5, 2), {Block: 5, Data: full(0)}}
	for _, row := range wantSplit(t, example(), l) {
		if len(row) != 1 || !slices.Equal(row[0].Data, full(0)) {
			t.Errorf("Split: %s", told(row))
		}
	}
}

// Unlike blocks are told the same in every order.
func TestSplitOrderDoesNotMatter(t *testing.T) {
	g := example()
	l := puts(6, 8, 10, 0, 29)
	want, most := wantSplit(t, g, l), plainMost(g, l)
	for _, order := range orders(len(l)) {
		other := []api.Put{}
		for _, i := range order {
			other = append(other, l[i])
		}
		if rows, e := plan.Split(g, other); e != api.OK || !sameRows(rows, want) {
			t.Errorf("order %v: %s, %v; want %s", order, toldRows(rows), e, toldRows(want))
		}
		wantMost(t, g, other, most)
	}
	source := rand.New(rand.NewSource(2))
	for _, g := range some() {
		l := []api.Put{}
		for i, block := range source.Perm(blocksOf(g))[:min(blocksOf(g), 256)] {
			l = append(l, put(block, i))
		}
		want := wantSplit(t, g, l)
		for range 5 {
			source.Shuffle(len(l), func(i, j int) { l[i], l[j] = l[j], l[i] })
			if rows, e := plan.Split(g, l); e != api.OK || !sameRows(rows, want) {
				t.Errorf("%+v: in another order: %s, %v; want %s", g, toldRows(rows), e, toldRows(want))
			}
		}
	}
}

// orders are all orders of the numbers below n.
func orders(n int) [][]int {
	if n == 0 {
		return [][]int{nil}
	}
	l := [][]int{}
	for _, o := range orders(n - 1) {
		for at := range n {
			l = append(l, slices.Insert(slices.Clone(o), at, n-1))
		}
	}
	return l
}

// The same call answers the same, however often.
func TestSplitSaysTheSameAgain(t *testing.T) {
	g := of(9, 4, 30)
	l := []api.Put{}
	for i := range 256 {
		l = append(l, put(i*i*31%blocksOf(g), i))
	}
	want := wantSplit(t, g, l)
	for range 20 {
		if rows, e := plan.Split(g, l); e != api.OK || !sameRows(rows, want) {
			t.Fatalf("Split says something else: %s, %v", toldRows(rows), e)
		}
	}
}

func TestSplitRefusesGeometries(t *testing.T) {
	for _, g := range invalid() {
		for _, l := range [][]api.Put{nil, puts(0), puts(-1), puts(0, 1, 0), {{Block: 0}}, {{Block: -1}}, make([]api.Put, 257)} {
			wantNoSplit(t, g, l, api.ErrGeomForm)
		}
	}
}

func TestSplitRefusesTooMany(t *testing.T) {
	for _, g := range some() {
		for _, n := range []int{257, 258, 512, 513, 70000} {
			wantNoSplit(t, g, slices.Repeat(puts(0), n), api.ErrArg)
			wantNoSplit(t, g, make([]api.Put, n), api.ErrArg)
			wantNoSplit(t, g, slices.Repeat(puts(-1), n), api.ErrArg)
		}
		wantSplit(t, g, slices.Repeat(puts(0), 257)[:256])
	}
}

func TestSplitRefusesBlocks(t *testing.T) {
	for _, g := range some() {
		for _, block := range outside(blocksOf(g)) {
			wantNoSplit(t, g, puts(block), api.ErrRange)
			wantNoSplit(t, g, puts(block, 0, 1), api.ErrRange)
			wantNoSplit(t, g, puts(0, block, 1), api.ErrRange)
			wantNoSplit(t, g, puts(0, 1, block), api.ErrRange)
			wantNoSplit(t, g, append(slices.Repeat(puts(1), 255), put(block, 0)), api.ErrRange)
			wantNoSplit(t, g, puts(block, block), api.ErrRange)
		}
	}
}

// Each element has to have 128 bytes, also one whose block is given again behind it.
func TestSplitRefusesLengths(t *testing.T) {
	for _, g := range some() {
		for _, n := range wrongLengths() {
			wrong := func(block int) api.Put { return api.Put{Block: block, Data: bytesOf(1, n)} }
			for _, l := range [][]api.Put{
				{wrong(0)}, {wrong(0), put(1, 1)}, {put(1, 1), wrong(0)}, {put(0, 1), wrong(0)}, {wrong(0), put(0, 1)}, {put(0, 1), wrong(0), put(0, 2)},
				{wrong(0), wrong(1)}, append(slices.Repeat(puts(1), 255), wrong(0)),
			} {
				wantNoSplit(t, g, l, api.ErrLength)
			}
		}
		wantNoSplit(t, g, []api.Put{{Block: 1}}, api.ErrLength)
		wantNoSplit(t, g, []api.Put{{Block: 1, Data: make([]byte, 0, 128)}}, api.ErrLength)
		wantNoSplit(t, g, []api.Put{{Block: 1, Data: make([]byte, 127, 128)}}, api.ErrLength)
	}
}

// Several errors at once: a geometry, then too many, then a block, then a length, wherever in the batch they are.
func TestSplitErrorsInOrder(t *testing.T) {
	g := example()
	short, beyond, both := api.Put{Block: 0, Data: bytesOf(1, 127)}, put(30, 1), api.Put{Block: -1, Data: bytesOf(1, 129)}
	for _, l := range [][]api.Put{{short, beyond}, {beyond, short}, {both}, {short, put(1, 1), beyond}, {short, short, put(-1, 1)}, {put(0, 1), both}} {
		wantNoSplit(t, g, l, api.ErrRange)
		wantNoSplit(t, of(4, 2, 257), l, api.ErrGeomForm)
		many := append(slices.Clone(l), slices.Repeat(puts(1), 257-len(l))...)
		wantNoSplit(t, g, many, api.ErrArg)
		wantNoSplit(t, g, many[:256], api.ErrRange)
		wantNoSplit(t, of(17, 2, 5), many, api.ErrGeomForm)
	}
	wantNoSplit(t, g, slices.Repeat([]api.Put{short}, 257), api.ErrArg)
	wantNoSplit(t, g, slices.Repeat([]api.Put{short}, 256), api.ErrLength)
}
