package geom_test

import (
	"math"
	"strconv"
	"strings"
	"testing"

	"spindle/api"
	"spindle/geom"
)

// parity stands in a picture instead of a block.
const parity = -1

// picture has what is in each row, member by member: a block, or the parity.
type picture [][]int

// drawn reads a picture off its rows, as they are drawn.
func drawn(t *testing.T, rows ...string) picture {
	t.Helper()
	p := picture{}
	for _, row := range rows {
		line := []int{}
		for _, word := range strings.Fields(row) {
			if word == "P" {
				line = append(line, parity)
				continue
			}
			block, err := strconv.Atoi(word)
			if err != nil {
				t.Fatal(err)
			}
			line = append(line, block)
		}
		p = append(p, line)
	}
	return p
}

// walked lays one block after the other, as the layout is told in words, and divides nothing.
func walked(g api.Geometry) picture {
	p := picture{}
	block, last := 0, g.Members-1
	for range g.Stripes {
		first := len(p)
		for range g.Chunk {
			p = append(p, make([]int, g.Members))
			p[len(p)-1][last] = parity
		}
		member := last
		for range g.Members - 1 {
			member = next(member, g.Members)
			for row := first; row < len(p); row++ {
				p[row][member] = block
				block++
			}
		}
		for range g.Members - 1 { // once round but one: back to the member ahead
			last = next(last, g.Members)
		}
	}
	return p
}

func next(member, members int) int {
	if member == members-1 {
		return 0
	}
	return member + 1
}

// spot is where a block is.
type spot struct{ row, member int }

// spots are where the blocks are, and on which member each row's parity is.
func (p picture) spots() (blocks map[int]spot, parities []int) {
	blocks, parities = map[int]spot{}, make([]int, len(p))
	for row, line := range p {
		for member, block := range line {
			if block == parity {
				parities[row] = member
			} else {
				blocks[block] = spot{row, member}
			}
		}
	}
	return blocks, parities
}

// some are valid geometries: the least and the greatest of each number, fewer stripes than members, as many, and more.
func some() []api.Geometry {
	l := []api.Geometry{}
	for members := 3; members <= 16; members++ {
		for _, chunk := range []int{1, 2, 3, 4, 15, 16} {
			for _, stripes := range []int{1, 2, members - 1, members, members + 1, 2*members + 1} {
				l = append(l, api.Geometry{Members: members, Chunk: chunk, Stripes: stripes})
			}
		}
	}
	return append(l, of(3, 1, 256), of(3, 16, 256), of(4, 7, 255), of(7, 5, 256), of(16, 1, 256), of(16, 16, 256))
}

func of(members, chunk, stripes int) api.Geometry {
	return api.Geometry{Members: members, Chunk: chunk, Stripes: stripes}
}

// wrongs are numbers of no member, no chunk, and no stripes; some of them have a valid number in their lowest byte or word.
func wrongs() []int {
	return []int{-1, -3, -16, -253, -256, 259, 260, 65537, 65539, 1<<31 - 1, -1 << 31, math.MinInt, math.MinInt + 3, math.MaxInt}
}

// invalid are geometries in which one number is wrong, or several are.
func invalid() []api.Geometry {
	l := []api.Geometry{{}, of(0, 1, 1), of(1, 1, 1), of(2, 1, 1), of(2, 16, 256), of(17, 1, 1), of(17, 16, 256)}
	l = append(l, of(3, 0, 1), of(16, 0, 256), of(3, 17, 1), of(16, 17, 256))
	l = append(l, of(3, 1, 0), of(16, 16, 0), of(3, 1, 257), of(16, 16, 257))
	l = append(l, of(2, 0, 0), of(17, 17, 257), of(4, 0, 0), of(2, 2, 0), of(-4, -2, 5), of(4, -2, -5), of(-4, -2, -5))
	for _, n := range wrongs() {
		l = append(l, of(n, 2, 5), of(4, n, 5), of(4, 2, n), of(n, n, n))
	}
	return l
}

// outside are positions that are none of n.
func outside(n int) []int {
	return []int{-1, n, n + 1, -n, -2, 2*n + 1, 1<<31 - 1, -1 << 31, math.MinInt, math.MinInt + 1, math.MaxInt}
}

func wantOf(t *testing.T, g api.Geometry, block int, want api.Place, wantE api.Errno) {
	t.Helper()
	if p, e := geom.Of(g, block); p != want || e != wantE {
		t.Errorf("%+v: Of(%d): %+v, %v; want %+v, %v", g, block, p, e, want, wantE)
	}
}

func wantAt(t *testing.T, g api.Geometry, at spot, want int, wantParity bool, wantE api.Errno) {
	t.Helper()
	if block, is, e := geom.At(g, at.member, at.row); block != want || is != wantParity || e != wantE {
		t.Errorf("%+v: At(%d, %d): %d, %v, %v; want %d, %v, %v", g, at.member, at.row, block, is, e, want, wantParity, wantE)
	}
}

func wantParity(t *testing.T, g api.Geometry, row, want int, wantE api.Errno) {
	t.Helper()
	if member, e := geom.Parity(g, row); member != want || e != wantE {
		t.Errorf("%+v: Parity(%d): %d, %v; want %d, %v", g, row, member, e, want, wantE)
	}
}

// wantNoMembers is about a refused call: nothing beside the error.
func wantNoMembers(t *testing.T, g api.Geometry, row int, want api.Errno) {
	t.Helper()
	if l, e := geom.Members(g, row); len(l) != 0 || e != want {
		t.Errorf("%+v: Members(%d): %v, %v; want nothing, %v", g, row, l, e, want)
	}
}

func place(t *testing.T, g api.Geometry, block int) api.Place {
	t.Helper()
	p, e := geom.Of(g, block)
	if e != api.OK {
		t.Fatalf("%+v: Of(%d): %v", g, block, e)
	}
	return p
}

func parityOf(t *testing.T, g api.Geometry, row int) int {
	t.Helper()
	member, e := geom.Parity(g, row)
	if e != api.OK {
		t.Fatalf("%+v: Parity(%d): %v", g, row, e)
	}
	return member
}

func membersOf(t *testing.T, g api.Geometry, row int) []int {
	t.Helper()
	l, e := geom.Members(g, row)
	if e != api.OK {
		t.Fatalf("%+v: Members(%d): %v", g, row, e)
	}
	return l
}
