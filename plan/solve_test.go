package plan_test

import (
	"slices"
	"testing"

	"spindle/api"
)

// The last line of the chapter's fourth example.
func TestSolveExample(t *testing.T) {
	wantSolved(t, example(), 0, 1, [][]byte{full(1), nil, full(2), full(4)}, full(7))
}

// Each row and member; what the member's own sector is makes no difference.
func TestSolveEach(t *testing.T) {
	for _, g := range some() {
		read := sectors(g.Members)
		rows := g.Chunk * g.Stripes
		for row := 0; row < rows; row++ {
			for member := range g.Members {
				rest := slices.Delete(slices.Clone(read), member, member+1)
				want := plainSum(rest...)
				wantSolved(t, g, row, member, read, want)
				if row > 2 && row < rows-2 {
					continue
				}
				for _, own := range [][]byte{nil, {}, {1}, bytesOf(3, 127), bytesOf(4, 128), bytesOf(5, 129), bytesOf(6, 4096)} {
					other := slices.Clone(read)
					other[member] = own
					wantSolved(t, g, row, member, other, want)
				}
			}
			if row > 20 && row < rows-20 {
				row += rows / 30
			}
		}
	}
}

// With the parity of the others in its place, each sector is what is solved.
func TestSolveOfEvenRows(t *testing.T) {
	for members := 3; members <= 16; members++ {
		g, row := of(members, 2, members), evenRow(members, members*31)
		for at := range 2 * members {
			for m := range members {
				wantSolved(t, g, at, m, row, row[m])
			}
		}
	}
}

func TestSolveOfZeros(t *testing.T) {
	g := example()
	wantSolved(t, g, 9, 3, slices.Repeat([][]byte{full(0)}, 4), full(0))
	wantSolved(t, g, 9, 0, slices.Repeat([][]byte{data(2)}, 4), data(2)) // one and the same, three times
	wantSolved(t, of(5, 1, 1), 0, 0, slices.Repeat([][]byte{data(2)}, 5), full(0))
}

func TestSolveRefusesGeometries(t *testing.T) {
	for _, g := range invalid() {
		for _, n := range []int{0, 3, 4, 5} {
			for _, at := range []int{-1, 0, 1, 100000} {
				wantNotSolved(t, g, at, 0, sectors(n), api.ErrGeomForm)
				wantNotSolved(t, g, 0, at, make([][]byte, n), api.ErrGeomForm)
			}
		}
	}
}

func TestSolveRefusesRowsAndMembers(t *testing.T) {
	for _, g := range some() {
		read, rows := sectors(g.Members), g.Chunk*g.Stripes
		for _, row := range outside(rows) {
			for _, member := range []int{0, 1, g.Members - 1, -1, g.Members} {
				wantNotSolved(t, g, row, member, read, api.ErrRange)
			}
		}
		for _, member := range outside(g.Members) {
			for _, row := range []int{0, rows - 1, -1, rows} {
				wantNotSolved(t, g, row, member, read, api.ErrRange)
			}
		}
	}
}

func TestSolveRefusesNumbersOfElements(t *testing.T) {
	for _, g := range some() {
		for _, n := range []int{0, 1, 2, g.Members - 1, g.Members + 1, 2 * g.Members, 256 + g.Members, 65536 + g.Members} {
			if n != g.Members {
				wantNotSolved(t, g, 0, 0, sectors(n), api.ErrArg)
				wantNotSolved(t, g, 0, g.Members-1, sectors(n), api.ErrArg)
				wantNotSolved(t, g, 0, 0, make([][]byte, n), api.ErrArg)
			}
		}
		wantNotSolved(t, g, 0, 0, nil, api.ErrArg)
		wantNotSolved(t, g, 0, 0, sectors(g.Members)[:g.Members-1], api.ErrArg)
	}
}

func TestSolveRefusesLengths(t *testing.T) {
	for _, g := range some() {
		for member := range g.Members {
			for m := range g.Members {
				for _, n := range wrongLengths() {
					read := sectors(g.Members)
					read[m] = bytesOf(1, n)
					if m != member {
						wantNotSolved(t, g, 0, member, read, api.ErrLength)
					}
				}
			}
			for _, b := range [][]byte{nil, bytesOf(1, 127), bytesOf(1, 129), make([]byte, 127, 128)} { // all of them equally long
				wantNotSolved(t, g, 0, member, slices.Repeat([][]byte{b}, g.Members), api.ErrLength)
			}
			read := make([][]byte, g.Members)
			read[member] = data(1)
			wantNotSolved(t, g, 0, member, read, api.ErrLength)
		}
	}
}

func TestSolveErrorsInOrder(t *testing.T) {
	g := example()
	for _, read := range [][][]byte{nil, make([][]byte, 3), make([][]byte, 5), make([][]byte, 4), sectors(4)} {
		wantNotSolved(t, of(4, 17, 5), 10, 4, read, api.ErrGeomForm)
		wantNotSolved(t, of(4, 17, 5), 0, 0, read, api.ErrGeomForm)
		wantNotSolved(t, g, 10, 0, read, api.ErrRange)
		wantNotSolved(t, g, -1, 0, read, api.ErrRange)
		wantNotSolved(t, g, 0, 4, read, api.ErrRange)
		wantNotSolved(t, g, 0, -1, read, api.ErrRange)
	}
	wantNotSolved(t, g, 0, 0, make([][]byte, 3), api.ErrArg)
	wantNotSolved(t, g, 0, 0, make([][]byte, 5), api.ErrArg)
	wantNotSolved(t, g, 0, 0, make([][]byte, 4), api.ErrLength)
}
