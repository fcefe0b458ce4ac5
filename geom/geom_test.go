package geom_test

import (
	"math"
	"slices"
	"testing"

	"spindle/api"
	"spindle/geom"
)

func TestCheck(t *testing.T) {
	edges := []int{math.MinInt, math.MinInt + 3, -256, -16, -3, -1, 0, 1, 2, 3, 4, 15, 16, 17, 255, 256, 257, 259, 65537, math.MaxInt}
	for _, members := range edges {
		for _, chunk := range edges {
			for _, stripes := range edges {
				want := api.ErrGeomForm
				if slices.Contains([]int{3, 4, 15, 16}, members) &&
					slices.Contains([]int{1, 2, 3, 4, 15, 16}, chunk) &&
					slices.Contains([]int{1, 2, 3, 4, 15, 16, 17, 255, 256}, stripes) {
					want = api.OK
				}
				if e := geom.Check(of(members, chunk, stripes)); e != want {
					t.Errorf("Check(%d, %d, %d): %v; want %v", members, chunk, stripes, e, want)
				}
			}
		}
	}
}

// One number at a time, beside two that are valid.
func TestCheckEdges(t *testing.T) {
	for _, c := range []struct {
		g    api.Geometry
		want api.Errno
	}{
		{of(2, 1, 1), api.ErrGeomForm}, {of(3, 1, 1), api.OK}, {of(16, 1, 1), api.OK}, {of(17, 1, 1), api.ErrGeomForm},
		{of(3, 0, 1), api.ErrGeomForm}, {of(3, 1, 1), api.OK}, {of(3, 16, 1), api.OK}, {of(3, 17, 1), api.ErrGeomForm},
		{of(3, 1, 0), api.ErrGeomForm}, {of(3, 1, 1), api.OK}, {of(3, 1, 256), api.OK}, {of(3, 1, 257), api.ErrGeomForm},
		{of(16, 16, 256), api.OK}, {of(17, 17, 257), api.ErrGeomForm}, {of(2, 0, 0), api.ErrGeomForm},
		{of(-3, 1, 1), api.ErrGeomForm}, {of(3, -1, 1), api.ErrGeomForm}, {of(3, 1, -1), api.ErrGeomForm},
		{of(math.MaxInt, 1, 1), api.ErrGeomForm}, {of(3, math.MaxInt, 1), api.ErrGeomForm}, {of(3, 1, math.MaxInt), api.ErrGeomForm},
		{of(math.MinInt, 1, 1), api.ErrGeomForm}, {of(3, math.MinInt, 1), api.ErrGeomForm}, {of(3, 1, math.MinInt), api.ErrGeomForm},
	} {
		if e := geom.Check(c.g); e != c.want {
			t.Errorf("Check(%+v): %v; want %v", c.g, e, c.want)
		}
	}
}

func TestSizes(t *testing.T) {
	for _, c := range []struct {
		g            api.Geometry
		rows, blocks int
	}{
		{of(3, 1, 1), 1, 2},
		{of(3, 1, 2), 2, 4},
		{of(4, 2, 5), 10, 30},
		{of(5, 3, 2), 6, 24},
		{of(3, 16, 1), 16, 32},
		{of(16, 1, 1), 1, 15},
		{of(3, 1, 256), 256, 512},
		{of(16, 16, 256), 4096, 61440},
	} {
		if rows, blocks := geom.Rows(c.g), geom.Blocks(c.g); rows != c.rows || blocks != c.blocks {
			t.Errorf("%+v: %d rows, %d blocks; want %d, %d", c.g, rows, blocks, c.rows, c.blocks)
		}
	}
}

// A geometry that is not valid is told first, whatever stands beside it.
func TestInvalidGeometry(t *testing.T) {
	positions := append([]int{0, 1, 2, 3, 15, 29}, outside(30)...)
	for _, g := range invalid() {
		if geom.Check(g) != api.ErrGeomForm || geom.Rows(g) != 0 || geom.Blocks(g) != 0 {
			t.Errorf("%+v: %v, %d rows, %d blocks", g, geom.Check(g), geom.Rows(g), geom.Blocks(g))
		}
		for _, at := range positions {
			wantOf(t, g, at, api.Place{}, api.ErrGeomForm)
			wantParity(t, g, at, 0, api.ErrGeomForm)
			wantNoMembers(t, g, at, api.ErrGeomForm)
			for _, member := range positions {
				wantAt(t, g, spot{row: at, member: member}, 0, false, api.ErrGeomForm)
			}
		}
	}
}

func TestOfEdges(t *testing.T) {
	for _, c := range []struct {
		g     api.Geometry
		block int
		want  api.Place
	}{
		{of(3, 1, 1), 0, api.Place{Stripe: 0, Row: 0, Member: 0, Parity: 2}},
		{of(3, 1, 1), 1, api.Place{Stripe: 0, Row: 0, Member: 1, Parity: 2}},
		{of(4, 2, 5), 0, api.Place{Stripe: 0, Row: 0, Member: 0, Parity: 3}},
		{of(4, 2, 5), 29, api.Place{Stripe: 4, Row: 9, Member: 2, Parity: 3}},
		{of(16, 16, 256), 0, api.Place{Stripe: 0, Row: 0, Member: 0, Parity: 15}},
		{of(16, 16, 256), 61439, api.Place{Stripe: 255, Row: 4095, Member: 15, Parity: 0}},
	} {
		wantOf(t, c.g, c.block, c.want, api.OK)
	}
	for _, g := range some() {
		for _, block := range outside(geom.Blocks(g)) {
			wantOf(t, g, block, api.Place{}, api.ErrRange)
		}
	}
}

func TestAtEdges(t *testing.T) {
	for _, c := range []struct {
		g      api.Geometry
		at     spot
		block  int
		parity bool
	}{
		{of(4, 2, 5), spot{row: 0, member: 0}, 0, false},
		{of(4, 2, 5), spot{row: 0, member: 3}, 0, true},
		{of(4, 2, 5), spot{row: 9, member: 0}, 25, false},
		{of(4, 2, 5), spot{row: 9, member: 3}, 0, true},
		{of(16, 16, 256), spot{row: 4095, member: 0}, 0, true},
		{of(16, 16, 256), spot{row: 4095, member: 15}, 61439, false},
	} {
		wantAt(t, c.g, c.at, c.block, c.parity, api.OK)
	}
	for _, g := range some() {
		for _, row := range outside(geom.Rows(g)) {
			wantAt(t, g, spot{row: row, member: 0}, 0, false, api.ErrRange)
			wantAt(t, g, spot{row: row, member: g.Members - 1}, 0, false, api.ErrRange)
			for _, member := range outside(g.Members) {
				wantAt(t, g, spot{row: row, member: member}, 0, false, api.ErrRange)
			}
		}
		for _, member := range outside(g.Members) {
			wantAt(t, g, spot{row: 0, member: member}, 0, false, api.ErrRange)
			wantAt(t, g, spot{row: geom.Rows(g) - 1, member: member}, 0, false, api.ErrRange)
		}
	}
}

func TestRowEdges(t *testing.T) {
	for _, c := range []struct {
		g            api.Geometry
		row, parity  int
		first, final int // of the members with blocks
	}{
		{of(3, 1, 1), 0, 2, 0, 1},
		{of(4, 2, 5), 0, 3, 0, 2},
		{of(4, 2, 5), 9, 3, 0, 2},
		{of(16, 16, 256), 0, 15, 0, 14},
		{of(16, 16, 256), 4095, 0, 1, 15},
	} {
		wantParity(t, c.g, c.row, c.parity, api.OK)
		if l := membersOf(t, c.g, c.row); len(l) != c.g.Members-1 || l[0] != c.first || l[len(l)-1] != c.final {
			t.Errorf("%+v: Members(%d): %v", c.g, c.row, l)
		}
	}
	for _, g := range some() {
		for _, row := range outside(geom.Rows(g)) {
			wantParity(t, g, row, 0, api.ErrRange)
			wantNoMembers(t, g, row, api.ErrRange)
		}
	}
}

// The document's own examples.
func TestExamples(t *testing.T) {
	g := of(4, 2, 5)
	for block, want := range map[int]api.Place{
		0:  {Stripe: 0, Row: 0, Member: 0, Parity: 3},
		1:  {Stripe: 0, Row: 1, Member: 0, Parity: 3},
		2:  {Stripe: 0, Row: 0, Member: 1, Parity: 3},
		5:  {Stripe: 0, Row: 1, Member: 2, Parity: 3},
		6:  {Stripe: 1, Row: 2, Member: 3, Parity: 2},
		8:  {Stripe: 1, Row: 2, Member: 0, Parity: 2},
		29: {Stripe: 4, Row: 9, Member: 2, Parity: 3},
	} {
		wantOf(t, g, block, want, api.OK)
	}
	wantOf(t, g, 30, api.Place{}, api.ErrRange)
	wantOf(t, g, -1, api.Place{}, api.ErrRange)
	if l := membersOf(t, g, 2); !slices.Equal(l, []int{3, 0, 1}) {
		t.Errorf("Members(2): %v", l)
	}
	wantParity(t, g, 2, 2, api.OK)
	wantAt(t, g, spot{row: 2, member: 2}, 0, true, api.OK)
	wantAt(t, g, spot{row: 2, member: 0}, 8, false, api.OK)
	wantAt(t, g, spot{row: 0, member: 4}, 0, false, api.ErrRange)
}
