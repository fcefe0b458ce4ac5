package rows_test

import (
	"math/rand"
	"testing"

	"spindle/api"
)

// story is a pair at which things happen at random, with what its blocks are to be. At most one member is down.
type story struct {
	*pair
	d      *rand.Rand
	blocks []string // as they were written last
	gone   int      // the member that is down; -1 if none is
	from   int      // the row from which on it is
	failed bool     // its disk too
}

func storyOf(t *testing.T, seed int) *story {
	t.Helper()
	d := rand.New(rand.NewSource(int64(seed)))
	l := shapes()
	g := l[d.Intn(len(l))]
	s := &story{pair: made(t, g, 9+d.Intn(40), d.Intn(2) == 0), d: d, gone: -1}
	for block := range blocksOf(g) {
		at := spotOf(g, block)
		s.blocks = append(s.blocks, string(s.stands(at.member, 1+at.row)))
	}
	return s
}

// need is how many places a batch takes at most.
func need(g api.Geometry, puts []api.Put) int {
	blocks, rows := map[int]bool{}, map[int]bool{}
	for _, p := range puts {
		blocks[p.Block], rows[spotOf(g, p.Block).row] = true, true
	}
	return 2*(len(blocks)+len(rows)) + 1
}

// drawn is a batch at random that the journal can take.
func (s *story) drawn() []api.Put {
	l := s.puts(s.d.Intn(len(s.blocks)))
	for range s.d.Intn(6) {
		more := append(l[:len(l):len(l)], s.puts(s.d.Intn(len(s.blocks)))...)
		if need(s.g, more) <= s.ring {
			l = more
		}
	}
	return l
}

// batch writes some blocks.
func (s *story) batch() {
	s.t.Helper()
	l := s.drawn()
	if u := s.write(l); u != noTrouble() {
		s.t.Fatalf("Write of %d blocks: %v", len(l), u)
	}
	for _, p := range l {
		s.blocks[p.Block] = string(p.Data)
	}
}

// wantBlock wants a block to be what was written last.
func (s *story) wantBlock(block int) {
	s.t.Helper()
	if got, u := s.read(block); u != noTrouble() || string(got) != s.blocks[block] {
		s.t.Fatalf("block %d, with member %d down from row %d on: %v, %x; want %x", block, s.gone, s.from, u, got, s.blocks[block])
	}
}

// lose takes a member down from a row on, where its disk has nothing of use from now on.
func (s *story) lose() {
	s.t.Helper()
	if s.gone < 0 {
		s.gone, s.from = s.d.Intn(s.g.Members), rowsOf(s.g)
	}
	from := s.d.Intn(s.from + 1)
	s.mark(s.gone, true, from)
	for row := from; row < s.from; row++ {
		s.lay(s.gone, 1+row, full(0xee))
	}
	s.from = from
	if from == 0 && !s.failed && s.d.Intn(2) == 0 {
		s.fail(s.gone)
		s.failed = true
	}
}

// regain brings the member back up to a row, or wholly.
func (s *story) regain() {
	s.t.Helper()
	if s.gone < 0 {
		return
	}
	s.run("settle")
	if s.failed {
		s.b.Swap(s.gone, rowsOf(s.g)+2)
		s.p.b.Swap(s.gone, rowsOf(s.g)+2)
		s.failed = false
		for row := range rowsOf(s.g) {
			s.lay(s.gone, 1+row, full(0xee))
		}
	}
	from := s.from + s.d.Intn(rowsOf(s.g)-s.from+1)
	for row := s.from; row < from; row++ {
		data, u := s.sector(s.gone, row)
		if u != noTrouble() {
			s.t.Fatalf("Sector(%d, %d): %v", s.gone, row, u)
		}
		s.lay(s.gone, 1+row, data)
	}
	s.from = from
	s.mark(s.gone, true, from)
	if from == rowsOf(s.g) && s.d.Intn(2) == 0 {
		s.mark(s.gone, false, 0)
		s.gone = -1
	}
}

// parity is what a row's parity is to be.
func (s *story) parity(row int) string {
	sum := string(full(0))
	for block, data := range s.blocks {
		if spotOf(s.g, block).row == row {
			sum = added(sum, data)
		}
	}
	return sum
}

// wantComplete wants all members that are not down to have what the blocks require, for good.
func (s *story) wantComplete() {
	s.t.Helper()
	want := map[spot]string{}
	for block, data := range s.blocks {
		want[spotOf(s.g, block)] = data
	}
	for row := range rowsOf(s.g) {
		want[spot{parityOf(s.g, row), row}] = s.parity(row)
	}
	for at, data := range want {
		if !s.r.Down(at.member, at.row) && string(s.stands(at.member, 1+at.row)) != data {
			s.t.Fatalf("member %d, row %d is not complete", at.member, at.row)
		}
	}
}

// wantUntouched wants nothing to have been written where the member is down.
func (s *story) wantUntouched() {
	s.t.Helper()
	if s.gone < 0 || s.failed {
		return
	}
	for row := s.from; row < rowsOf(s.g); row++ {
		if string(s.stands(s.gone, 1+row)) != string(full(0xee)) {
			s.t.Fatalf("member %d is down from row %d on, and row %d has been written", s.gone, s.from, row)
		}
	}
}

// happen does something at random.
func (s *story) happen() {
	s.t.Helper()
	switch s.d.Intn(12) {
	case 0, 1, 2, 3:
		s.batch()
	case 4:
		s.run("settle")
	case 5:
		s.run("sync finish")
	case 6:
		s.run("barrier")
	case 7:
		s.run("empty")
		s.wantComplete()
		s.wantUntouched()
	case 8, 9:
		s.lose()
	case 10:
		s.regain()
	case 11:
		s.run("finish")
	}
	for range 3 {
		s.wantBlock(s.d.Intn(len(s.blocks)))
	}
}

// What is read is what was written last, a member that is down is neither read nor written, and behind Empty the rows are complete.
func TestReadsWhatWasWritten(t *testing.T) {
	for seed := range 150 {
		s := storyOf(t, seed)
		for range 40 {
			s.happen()
		}
		s.run("barrier")
		s.wantUntouched()
		for block := range s.blocks {
			s.wantBlock(block)
		}
		s.run("empty")
		s.wantComplete()
		for block := range s.blocks {
			s.wantBlock(block)
		}
	}
}

// Lazy or not, and with whatever ring: the blocks and the rows come to be the same.
func TestLazyIsTheSame(t *testing.T) {
	for seed := range 20 {
		images := []string{}
		for _, lazy := range []bool{false, true} {
			for _, ring := range []int{17, 18, 60, 300} {
				x := made(t, four(), ring, lazy)
				d := rand.New(rand.NewSource(int64(seed)))
				for range 20 {
					l := x.puts(d.Intn(30), d.Intn(30))
					if u := x.write(l); u != noTrouble() {
						t.Fatalf("Write: %v", u)
					}
					x.wantBlocks(l)
				}
				x.run("empty")
				all := ""
				for m := range 4 {
					image, _ := x.b.Image(m)
					all += string(image)
				}
				images = append(images, all)
			}
		}
		for _, image := range images {
			if image != images[0] {
				t.Fatal("the disks come to be others")
			}
		}
	}
}
