package geom_test

import (
	"slices"
	"testing"

	"spindle/api"
	"spindle/geom"
)

// wantLayout holds every answer about a geometry against its picture.
func wantLayout(t *testing.T, g api.Geometry, p picture) {
	t.Helper()
	blocks, parities := p.spots()
	if geom.Check(g) != api.OK || geom.Rows(g) != len(p) || geom.Blocks(g) != len(blocks) {
		t.Fatalf("%+v: %v, %d rows, %d blocks; want OK, %d, %d", g, geom.Check(g), geom.Rows(g), geom.Blocks(g), len(p), len(blocks))
	}
	for block := range len(blocks) {
		at := blocks[block]
		want := api.Place{Stripe: at.row / g.Chunk, Row: at.row, Member: at.member, Parity: parities[at.row]}
		wantOf(t, g, block, want, api.OK)
	}
	for row, line := range p {
		wantParity(t, g, row, parities[row], api.OK)
		for member, block := range line {
			if block == parity {
				wantAt(t, g, spot{row, member}, 0, true, api.OK)
			} else {
				wantAt(t, g, spot{row, member}, block, false, api.OK)
			}
		}
		if l := membersOf(t, g, row); !slices.Equal(l, byBlock(line)) {
			t.Errorf("%+v: Members(%d): %v; want %v", g, row, l, byBlock(line))
		}
	}
}

// byBlock are the members with blocks of a picture's row, by rising block.
func byBlock(line []int) []int {
	members := []int{}
	for member, block := range line {
		if block != parity {
			members = append(members, member)
		}
	}
	slices.SortFunc(members, func(a, b int) int { return line[a] - line[b] })
	return members
}

// Pictures that were drawn by hand, with stripes all the way round and one further.
func TestDrawnLayouts(t *testing.T) {
	wantLayout(t, of(3, 1, 1), drawn(t,
		"0 1 P",
	))
	wantLayout(t, of(3, 1, 4), drawn(t,
		"0 1 P",
		"3 P 2",
		"P 4 5",
		"6 7 P",
	))
	wantLayout(t, of(4, 2, 5), drawn(t,
		" 0  2  4  P",
		" 1  3  5  P",
		" 8 10  P  6",
		" 9 11  P  7",
		"16  P 12 14",
		"17  P 13 15",
		" P 18 20 22",
		" P 19 21 23",
		"24 26 28  P",
		"25 27 29  P",
	))
	wantLayout(t, of(5, 3, 2), drawn(t,
		" 0  3  6  9  P",
		" 1  4  7 10  P",
		" 2  5  8 11  P",
		"15 18 21  P 12",
		"16 19 22  P 13",
		"17 20 23  P 14",
	))
}

func TestWalkedLayouts(t *testing.T) {
	for _, g := range some() {
		wantLayout(t, g, walked(g))
	}
}

func TestAtOfPlaceIsBlock(t *testing.T) {
	for _, g := range some() {
		taken := map[spot]int{}
		for block := range geom.Blocks(g) {
			p := place(t, g, block)
			at := spot{p.Row, p.Member}
			wantAt(t, g, at, block, false, api.OK)
			taken[at]++
			if taken[at] > 1 {
				t.Errorf("%+v: block %d is not the first one in row %d of member %d", g, block, at.row, at.member)
			}
		}
	}
}

// Each place has a block, whose place it is, or the parity of its row.
func TestOfBlockAtPlaceIsPlace(t *testing.T) {
	for _, g := range some() {
		for row := range geom.Rows(g) {
			for member := range g.Members {
				block, is, e := geom.At(g, member, row)
				if e != api.OK {
					t.Fatalf("%+v: At(%d, %d): %v", g, member, row, e)
				}
				if is != (member == parityOf(t, g, row)) || is && block != 0 {
					t.Errorf("%+v: At(%d, %d): %d, %v", g, member, row, block, is)
				}
				if !is {
					want := api.Place{Stripe: row / g.Chunk, Row: row, Member: member, Parity: parityOf(t, g, row)}
					wantOf(t, g, block, want, api.OK)
				}
			}
		}
	}
}

func TestMembersAndParityAreAllMembers(t *testing.T) {
	for _, g := range some() {
		for row := range geom.Rows(g) {
			times := make([]int, g.Members)
			for _, member := range append(membersOf(t, g, row), parityOf(t, g, row)) {
				times[member]++
			}
			if slices.Min(times) != 1 || slices.Max(times) != 1 {
				t.Errorf("%+v: row %d: members that many times: %v", g, row, times)
			}
		}
	}
}

func TestMembersAreInOrderOfBlocks(t *testing.T) {
	for _, g := range some() {
		for row := range geom.Rows(g) {
			last := -1
			for _, member := range membersOf(t, g, row) {
				block, is, e := geom.At(g, member, row)
				if block <= last || is || e != api.OK {
					t.Errorf("%+v: At(%d, %d): %d, %v, %v behind block %d", g, member, row, block, is, e, last)
				}
				last = block
			}
		}
	}
}

func TestParityGoesRound(t *testing.T) {
	for _, g := range some() {
		for first := range max(0, g.Stripes-g.Members+1) {
			times := make([]int, g.Members)
			for stripe := first; stripe < first+g.Members; stripe++ {
				times[parityOf(t, g, stripe*g.Chunk)]++
			}
			if slices.Min(times) != 1 || slices.Max(times) != 1 {
				t.Errorf("%+v: from stripe %d on each member has the parity that many times: %v", g, first, times)
			}
		}
	}
}

// All rows of a stripe have their parity on the same member.
func TestParityOfStripe(t *testing.T) {
	for _, g := range some() {
		for row := range geom.Rows(g) {
			wantParity(t, g, row, parityOf(t, g, row-row%g.Chunk), api.OK)
		}
	}
}

func TestBlocksOfStripe(t *testing.T) {
	for _, g := range some() {
		size := (g.Members - 1) * g.Chunk
		for block := range geom.Blocks(g) {
			p := place(t, g, block)
			if p.Stripe != block/size {
				t.Errorf("%+v: block %d: stripe %d", g, block, p.Stripe)
			}
			i := block % size
			if same := place(t, g, block-i%g.Chunk); same.Member != p.Member || same.Row+i%g.Chunk != p.Row {
				t.Errorf("%+v: block %d is at %+v, the first one of its run at %+v", g, block, p, same)
			}
			if i < g.Chunk {
				continue
			}
			if ahead := place(t, g, block-g.Chunk); ahead.Row != p.Row || ahead.Member == p.Member {
				t.Errorf("%+v: block %d is at %+v, the one a chunk ahead at %+v", g, block, p, ahead)
			}
		}
	}
}

// scribble writes all over l and behind it.
func scribble(l []int) {
	l = l[:cap(l)]
	for i := range l {
		l[i] = ^l[i]
	}
}

func TestMembersAreTheirOwners(t *testing.T) {
	for _, g := range []api.Geometry{of(3, 1, 1), of(4, 2, 5), of(16, 16, 256)} {
		_, parities := walked(g).spots()
		for row, line := range walked(g) {
			want := byBlock(line)
			kept := membersOf(t, g, row)
			scribble(membersOf(t, g, row))
			if !slices.Equal(kept, want) {
				t.Errorf("%+v: Members(%d), which came out before: %v; want %v", g, row, kept, want)
			}
			if l := membersOf(t, g, row); !slices.Equal(l, want) {
				t.Errorf("%+v: Members(%d), which came out later: %v; want %v", g, row, l, want)
			}
			wantParity(t, g, row, parities[row], api.OK)
		}
	}
}
