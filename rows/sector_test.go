package rows_test

import (
	"bytes"
	"strconv"
	"testing"

	"spindle/api"
)

// wantSector wants Sector to answer these bytes, by so many reads and nothing else.
func (x *pair) wantSector(member, row int, want []byte, reads int) {
	x.t.Helper()
	x.spend("sector."+strconv.Itoa(member)+"."+strconv.Itoa(row), reads, 0, 0)
	got, _ := x.sector(member, row)
	if !bytes.Equal(got, want) {
		x.t.Fatalf("Sector(%d, %d): %x; want %x", member, row, got, want)
	}
}

// wantNoSector wants Sector to have this trouble behind so many reads.
func (x *pair) wantNoSector(member, row, slot int, e api.Errno, reads int) {
	x.t.Helper()
	x.spendTrouble("sector."+strconv.Itoa(member)+"."+strconv.Itoa(row), slot, e, reads, 0, 0)
	if got, _ := x.sector(member, row); len(got) > 0 {
		x.t.Fatalf("Sector(%d, %d): %v and %x", member, row, e, got)
	}
}

// stands is what stands on a disk.
func (x *pair) stands(slot, at int) []byte {
	image, _ := x.b.Image(slot)
	return image[128*at : 128*at+128]
}

// shapes are some geometries: the smallest, the broadest, and some between.
func shapes() []api.Geometry {
	return []api.Geometry{shape(3, 1, 1), three(), shape(3, 2, 4), four(), shape(5, 3, 2), shape(16, 1, 2), shape(16, 2, 1)}
}

func TestSectorOfADisk(t *testing.T) {
	for _, g := range shapes() {
		x := made(t, g, 0, false)
		for row := range rowsOf(g) {
			for m := range g.Members {
				x.wantSector(m, row, x.stands(m, 1+row), 1)
			}
		}
	}
}

// Read is Sector of where the block stands.
func TestReadOfEachBlock(t *testing.T) {
	for _, g := range shapes() {
		x := made(t, g, 0, false)
		for block := range blocksOf(g) {
			x.spend("read."+strconv.Itoa(block), 1, 0, 0)
			got, _ := x.read(block)
			if at := spotOf(g, block); !bytes.Equal(got, x.stands(at.member, 1+at.row)) {
				t.Errorf("%v: Read(%d): %x", g, block, got)
			}
		}
	}
}

func TestReadOfNoBlock(t *testing.T) {
	for _, g := range shapes() {
		x := made(t, g, 5, true)
		x.try("write.0 down.0.0 down.1.0 down.2.0")
		for _, block := range append(misfits(), -2, blocksOf(g), blocksOf(g)+1, blocksOf(g)+g.Members) {
			if got, u := x.read(block); u != (api.Trouble{Err: api.ErrRange}) && block >= blocksOf(g) || len(got) > 0 {
				t.Errorf("%v: Read(%d): %v, %x", g, block, u, got)
			}
		}
		last := strconv.Itoa(blocksOf(g))
		x.spendTrouble("read."+last, 0, api.ErrRange, 0, 0, 0)
		x.spendTrouble("read.-1", 0, api.ErrRange, 0, 0, 0)
	}
}

// That there is no such sector is told ahead of all else, though the disks have more sectors than rows.
func TestSectorOfNoPlace(t *testing.T) {
	for _, g := range shapes() {
		for _, marks := range []string{"", "down.0.0", "down.0.0 down.1.0", "write.0 down.2.0"} {
			x := made(t, g, 5, true)
			x.run(marks)
			for _, m := range append(misfits(), g.Members, g.Members+1) {
				if m < 0 || m >= g.Members {
					x.wantNoSector(m, 0, 0, api.ErrRange, 0)
					x.wantNoSector(m, -1, 0, api.ErrRange, 0)
				}
			}
			for _, row := range append(misfits(), rowsOf(g), rowsOf(g)+1) {
				if row < 0 || row >= rowsOf(g) {
					x.wantNoSector(0, row, 0, api.ErrRange, 0)
					x.wantNoSector(g.Members-1, row, 0, api.ErrRange, 0)
				}
			}
			x.fail(0)
			x.trip(0)
			x.wantNoSector(0, rowsOf(g), 0, api.ErrRange, 0)
			x.wantNoSector(g.Members, 0, 0, api.ErrRange, 0)
		}
	}
}

// A member that is down is worked out from where it is down on, and read ahead of that.
func TestSectorOfADownMember(t *testing.T) {
	for _, g := range shapes() {
		for m := range g.Members {
			for _, from := range []int{-1, 0, 1, rowsOf(g) / 2, rowsOf(g) - 1, rowsOf(g), rowsOf(g) + 1} {
				x := made(t, g, 0, false)
				x.mark(m, true, from)
				for row := range rowsOf(g) {
					want, reads := x.stands(m, 1+row), 1
					if row >= from {
						x.lay(m, 1+row, full(9)) // which nobody looks at
						reads = g.Members - 1
					}
					x.wantSector(m, row, want, reads)
					x.wantSector((m+1)%g.Members, row, x.stands((m+1)%g.Members, 1+row), 1)
				}
			}
		}
	}
}

// Nothing but the others' sum is told of a row that is not even.
func TestSectorOfAnUnevenRow(t *testing.T) {
	x := made(t, four(), 0, false)
	x.run("down.1.0")
	for m, c := range []byte{1, 2, 4, 8} {
		x.lay(m, 4, full(c))
	}
	x.wantSector(1, 3, full(13), 3)
}

// The others are read by rising members: of two that fail the first one is told, and what comes behind it is left.
func TestSectorReadsRising(t *testing.T) {
	for _, g := range []api.Geometry{three(), four(), shape(16, 1, 1)} {
		for m := range g.Members {
			others := []int{}
			for k := range g.Members {
				if k != m {
					others = append(others, k)
				}
			}
			for i, first := range others {
				for _, second := range others[i:] {
					x := made(t, g, 0, false)
					x.mark(m, true, 0)
					x.fail(first)
					x.pull(second)
					e := api.ErrFailed
					if first == second {
						e = api.ErrBayEmpty
					}
					x.wantNoSector(m, 0, first, e, i+1)
				}
				x := made(t, g, 0, false)
				x.mark(m, true, 0)
				x.trip(i)
				x.wantNoSector(m, 0, first, api.ErrBayDark, i)
			}
		}
	}
}

// A sector that is up is read of its own disk, whatever has become of the others.
func TestSectorNeedsNoOther(t *testing.T) {
	x := made(t, four(), 0, false)
	x.run("down.0.0 down.1.0 down.3.0")
	x.fail(0)
	x.fail(1)
	x.pull(3)
	x.wantSector(2, 4, x.stands(2, 5), 1)
	x.fail(2)
	x.wantNoSector(2, 4, 2, api.ErrFailed, 1)
	x.cut()
	x.trip(0)
	x.wantNoSector(2, 4, 2, api.ErrBayDark, 0)
}

// Two that are down at a row are lost; where only one of them is, it is worked out.
func TestSectorIsLost(t *testing.T) {
	for _, g := range []api.Geometry{shape(3, 3, 2), four(), shape(16, 2, 2)} {
		for a := range g.Members {
			for _, b := range []int{(a + 1) % g.Members, (a + g.Members - 1) % g.Members} {
				x := made(t, g, 0, false)
				x.mark(a, true, 1)
				x.mark(b, true, 3)
				for row := range rowsOf(g) {
					if row >= 3 {
						x.wantNoSector(a, row, 0, api.ErrPlanLost, 0)
						x.wantNoSector(b, row, 0, api.ErrPlanLost, 0)
						continue
					}
					x.wantSector(b, row, x.stands(b, 1+row), 1)
					x.wantSector(a, row, x.stands(a, 1+row), []int{1, g.Members - 1}[min(row, 1)])
				}
				x.trip(0)
				x.wantNoSector(a, 3, 0, api.ErrPlanLost, 0) // it is told without an operation
				for m := range g.Members {
					x.fail(m)
				}
				x.wantNoSector(b, 3, 0, api.ErrPlanLost, 0)
			}
		}
	}
}

// What waits is told without an operation, whether its member is down or not, and stands for it where another one is worked out.
func TestSectorOfWhatWaits(t *testing.T) {
	x := made(t, four(), 20, true)
	x.run("write.0") // on member 0; the parity is on member 3
	data, parity := random(1), x.p.waiting[spot{3, 0}]
	old := x.stands(0, 1)
	for _, marks := range []string{"", "down.0.0", "down.3.0", "down.1.0", "down.2.0"} {
		x.run(marks)
		x.wantSector(0, 0, data, 0)
		x.wantSector(3, 0, []byte(parity), 0)
	}
	x.wantNoSector(1, 0, 0, api.ErrPlanLost, 0) // nothing waits for member 2
	x.wantNoSector(0, 1, 0, api.ErrPlanLost, 0) // nor for any member in row 1
	x.run("up.2")
	x.wantSector(1, 0, x.stands(1, 1), 1) // by the sum of what waits and what is read
	x.run("down.2.1")
	x.wantSector(1, 0, x.stands(1, 1), 1)
	x.trip(0)
	x.wantNoSector(1, 0, 2, api.ErrBayDark, 0)
	x.wantSector(0, 0, data, 0)
	x.cut()
	for m := range 5 {
		x.fail(m)
	}
	x.wantSector(0, 0, data, 0)
	x.wantNoSector(1, 0, 2, api.ErrFailed, 1)
	if bytes.Equal(old, data) {
		t.Errorf("nothing was written")
	}
}

// A patch that waits covers its own row and member alone.
func TestOtherSectorsDontWait(t *testing.T) {
	x := made(t, four(), 20, true)
	x.run("write.0.3") // on members 0 and 1, in the rows 0 and 1
	for row := range 10 {
		for m := range 4 {
			reads := 1
			if row == 0 && (m == 0 || m == 3) || row == 1 && (m == 1 || m == 3) {
				reads = 0
			}
			x.spend("sector."+strconv.Itoa(m)+"."+strconv.Itoa(row), reads, 0, 0)
		}
	}
}

// Where three are down at a row, one of them without a patch that waits is enough for the others to be lost.
func TestSectorOfSeveralDown(t *testing.T) {
	x := made(t, four(), 20, true)
	x.run("write.0.2 down.0.0 down.1.0 down.3.0") // patches of 0, 1 and 3 wait in row 0
	sum := added(added(x.p.waiting[spot{0, 0}], x.p.waiting[spot{1, 0}]), x.p.waiting[spot{3, 0}])
	x.run("down.2.0")
	x.wantSector(2, 0, []byte(sum), 0)
	x.wantNoSector(2, 1, 0, api.ErrPlanLost, 0)
	x.run("up.2 settle") // all but member 2's are skipped; then none waits
	x.wantNoSector(0, 0, 0, api.ErrPlanLost, 0)
	x.wantNoSector(3, 0, 0, api.ErrPlanLost, 0)
	x.wantSector(2, 0, x.stands(2, 1), 1)
}
