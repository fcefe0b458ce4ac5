package plan_test

import (
	"math/rand"
	"slices"
	"testing"

	"spindle/api"
	"spindle/plan"
)

// evenRow is one sector of each member, whose exclusive or is zeros.
func evenRow(members, c int) [][]byte {
	row := make([][]byte, members)
	for m := range members - 1 {
		row[m] = data(c + m*13)
	}
	row[members-1] = plainSum(row[:members-1]...)
	return row
}

// lost is a row whose member that is down says anything; without one it is the row.
func lost(row [][]byte, gone int) [][]byte {
	row = slices.Clone(row)
	if gone != none {
		row[gone] = full(0xee)
	}
	return row
}

// wantRowWritten writes blocks of an even row: behind that it is even again, with these and with all others as before.
func wantRowWritten(t *testing.T, g api.Geometry, at, gone int, given []int, row [][]byte) {
	t.Helper()
	d, l := down(g.Members, gone), patches(at, given...)
	p := planned(t, g, d, l)
	if slices.Contains(p.Reads, gone) || len(p.Reads) > g.Members-1 {
		t.Errorf("%+v: down %d, given %v: reads %v", g, gone, given, p.Reads)
	}
	work, e := plan.Work(g, d, p, only(lost(row, gone), p.Reads...))
	if e != api.OK || len(work) > len(given)+1 {
		t.Fatalf("%+v: down %d, given %v: %d patches, %v", g, gone, given, len(work), e)
	}
	after := lost(row, gone)
	for i, x := range work {
		if x.Row != at || x.Member == gone || i > 0 && x.Member <= work[i-1].Member {
			t.Errorf("%+v: down %d, given %v: %s", g, gone, given, told(work))
		}
		after[x.Member] = x.Data
	}
	if gone != none { // its sector is what the others come to
		after[gone] = plainSum(slices.Delete(slices.Clone(after), gone, gone+1)...)
		wantSolved(t, g, at, gone, after, after[gone])
	}
	want := slices.Clone(row)
	for _, x := range l {
		want[x.Member] = x.Data
	}
	parity := plainParity(g, at)
	want[parity] = plainSum(slices.Delete(slices.Clone(want), parity, parity+1)...)
	if !sameSectors(after, want) {
		t.Errorf("%+v: down %d, given %v of row %d: the row is another one", g, gone, given, at)
	}
}

// All geometries that are small, all members that may be down, all sets of given blocks of each row.
func TestRowsStayEven(t *testing.T) {
	for members := 3; members <= 6; members++ {
		for chunk := 1; chunk <= 2; chunk++ {
			for _, stripes := range []int{1, 2, members, members + 1} {
				g := of(members, chunk, stripes)
				for at := range chunk * stripes {
					row := evenRow(members, at*97+members)
					for _, given := range subsets(withBlocks(g, at)) {
						for gone := none; gone < members; gone++ {
							wantRowWritten(t, g, at, gone, given, row)
						}
					}
				}
			}
		}
	}
}

// Greater ones, with sets at random.
func TestGreatRowsStayEven(t *testing.T) {
	source := rand.New(rand.NewSource(5))
	for _, g := range some() {
		for range 60 {
			at := source.Intn(g.Chunk * g.Stripes)
			members := withBlocks(g, at)
			source.Shuffle(len(members), func(i, j int) { members[i], members[j] = members[j], members[i] })
			given := members[:1+source.Intn(len(members))]
			slices.Sort(given)
			wantRowWritten(t, g, at, source.Intn(g.Members+1)-1, given, evenRow(g.Members, source.Intn(1000)))
		}
	}
}

// store is what the members have, row by row, and what the blocks are to be.
type store struct {
	g      api.Geometry
	gone   int // the member that is down
	rows   [][][]byte
	blocks map[int][]byte
}

func storeOf(g api.Geometry) *store {
	s := &store{g: g, gone: none, blocks: map[int][]byte{}}
	for range g.Chunk * g.Stripes {
		s.rows = append(s.rows, slices.Repeat([][]byte{full(0)}, g.Members))
	}
	for block := range blocksOf(g) {
		s.blocks[block] = full(0)
	}
	return s
}

// write splits a batch, plans its rows, and places what that comes to; it counts the patches.
func (s *store) write(t *testing.T, l []api.Put) {
	t.Helper()
	rows, e := plan.Split(s.g, l)
	if e != api.OK {
		t.Fatalf("%+v: Split: %v", s.g, e)
	}
	most, _ := plan.Most(s.g, l)
	count, bare := 0, 0
	for _, row := range rows {
		d := down(s.g.Members, s.gone)
		p := planned(t, s.g, d, row)
		work, e := plan.Work(s.g, d, p, only(s.rows[p.Row], p.Reads...))
		if e != api.OK {
			t.Fatalf("%+v: Work: %v", s.g, e)
		}
		for _, x := range work {
			if x.Member == s.gone {
				t.Fatalf("%+v: a patch of member %d, which is down", s.g, s.gone)
			}
			s.rows[x.Row][x.Member] = x.Data
		}
		count += len(work)
		if p.Parity == s.gone || slices.ContainsFunc(row, func(x api.Patch) bool { return x.Member == s.gone }) {
			bare++
		}
	}
	if count != most-bare {
		t.Errorf("%+v: %d patches, %d of which a member that is down would have had; Most says %d", s.g, count, bare, most)
	}
	for _, p := range l {
		s.blocks[p.Block] = p.Data
	}
}

// fail loses what a member has.
func (s *store) fail(member int) {
	s.gone = member
	for _, row := range s.rows {
		row[member] = full(0xee)
	}
}

// heal gives the member that is down its sectors again.
func (s *store) heal(t *testing.T) {
	t.Helper()
	for at, row := range s.rows {
		b, e := plan.Solve(s.g, at, s.gone, row)
		if e != api.OK {
			t.Fatalf("%+v: Solve(%d, %d): %v", s.g, at, s.gone, e)
		}
		row[s.gone] = b
	}
	s.gone = none
}

// want holds each block against what was written last, and each row against its parity.
func (s *store) want(t *testing.T) {
	t.Helper()
	for block := range blocksOf(s.g) {
		member, at := plainPlace(s.g, block)
		b := s.rows[at][member]
		if member == s.gone {
			b = plainSum(slices.Delete(slices.Clone(s.rows[at]), member, member+1)...)
		}
		if !slices.Equal(b, s.blocks[block]) {
			t.Fatalf("%+v: down %d: block %d is another one", s.g, s.gone, block)
		}
	}
	for at, row := range s.rows {
		if s.gone == none && !slices.Equal(plainSum(row...), full(0)) {
			t.Fatalf("%+v: row %d isn't even", s.g, at)
		}
	}
}

// Batches over several rows, one behind the other, while members fail and are healed.
func TestBatchesOverRows(t *testing.T) {
	for i, g := range []api.Geometry{of(3, 1, 1), of(3, 1, 7), of(4, 2, 5), of(5, 3, 4), of(7, 2, 8), of(16, 1, 17), of(16, 4, 3)} {
		source := rand.New(rand.NewSource(int64(i)))
		s := storeOf(g)
		for n := range 60 {
			l := []api.Put{}
			for range []int{0, 1, 2, 5, 20, 100, 256}[source.Intn(7)] {
				l = append(l, put(source.Intn(blocksOf(g)), source.Intn(1<<16)))
			}
			s.write(t, l)
			s.want(t)
			if n%5 == 4 && s.gone == none {
				s.fail(source.Intn(g.Members))
				s.want(t)
			} else if n%5 == 4 {
				s.heal(t)
				s.want(t)
			}
		}
	}
}
