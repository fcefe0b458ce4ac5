package plan_test

import (
	"fmt"
	"math"
	"slices"
	"testing"

	"spindle/api"
	"spindle/plan"
)

// none stands where a member would, if there is none.
const none = -1

func of(members, chunk, stripes int) api.Geometry {
	return api.Geometry{Members: members, Chunk: chunk, Stripes: stripes}
}

// example is the chapter's geometry.
func example() api.Geometry { return of(4, 2, 5) }

// some are valid geometries: the least and the greatest of each number, fewer stripes than members, as many, and more.
func some() []api.Geometry {
	return []api.Geometry{
		of(3, 1, 1), of(3, 1, 2), of(3, 1, 4), of(3, 16, 1), of(3, 1, 256), of(3, 16, 256), of(4, 2, 5), of(4, 1, 1), of(5, 3, 2), of(6, 2, 13),
		of(7, 5, 9), of(8, 16, 3), of(11, 1, 11), of(15, 2, 16), of(16, 1, 1), of(16, 16, 1), of(16, 1, 256), of(16, 15, 17), of(16, 16, 256),
	}
}

// invalid are geometries in which one number is wrong, or several are.
func invalid() []api.Geometry {
	l := []api.Geometry{
		{}, of(2, 1, 1), of(17, 1, 1), of(3, 0, 1), of(3, 17, 1), of(3, 1, 0), of(3, 1, 257), of(2, 16, 256), of(17, 16, 256), of(16, 17, 256),
		of(16, 16, 257), of(4, 0, 0), of(0, 2, 5), of(4, -2, -5), of(-4, 2, 5), of(-4, -2, 5),
	}
	for _, n := range wild() {
		l = append(l, of(n, 2, 5), of(4, n, 5), of(4, 2, n))
	}
	return l
}

// wild are as great and as small as an int holds, or nearly so, and some whose lower bytes alone would be a position.
func wild() []int {
	return []int{
		math.MaxInt, math.MaxInt - 1, math.MinInt, math.MinInt + 1, math.MinInt + 3, 1 << 62, -1 << 62, 1<<31 - 1, 1 << 31, 1 << 32, 1<<32 + 3,
		-1 << 31, -1<<31 + 3, -1<<32 + 3, 1<<16 + 3, -1<<16 + 3, -256 + 3, -256,
	}
}

// outside are positions that are none of n.
func outside(n int) []int { return append([]int{-1, -2, -n, n, n + 1, 2*n + 1}, wild()...) }

// wrongLengths are none of a sector.
func wrongLengths() []int { return []int{0, 1, 127, 129, 256, 4096} }

// data is a sector whose bytes hang on c, each unlike its neighbours.
func data(c int) []byte { return bytesOf(c, 128) }

func bytesOf(c, n int) []byte {
	b := make([]byte, n)
	for i := range b {
		b[i] = byte(c*7+i*i*3) ^ byte(c>>8*11+c>>3*i)
	}
	return b
}

// full is a sector of one byte.
func full(c byte) []byte { return slices.Repeat([]byte{c}, 128) }

// put is a block with bytes that hang on c.
func put(block, c int) api.Put { return api.Put{Block: block, Data: data(c)} }

// puts are blocks, each with bytes of its own, those of equal blocks too.
func puts(blocks ...int) []api.Put {
	l := []api.Put{}
	for i, block := range blocks {
		l = append(l, put(block, 300+i))
	}
	return l
}

// patches are of one row, each with bytes of its own.
func patches(row int, members ...int) []api.Patch {
	l := []api.Patch{}
	for i, m := range members {
		l = append(l, api.Patch{Member: m, Row: row, Data: data(500 + 10*m + i)})
	}
	return l
}

// down has members of which these are down.
func down(members int, which ...int) []bool {
	l := make([]bool, members)
	for _, m := range which {
		if m != none {
			l[m] = true
		}
	}
	return l
}

// sectors are one of each member.
func sectors(members int) [][]byte {
	l := make([][]byte, members)
	for m := range l {
		l[m] = data(900 + m)
	}
	return l
}

func samePatch(a, b api.Patch) bool {
	return a.Member == b.Member && a.Row == b.Row && slices.Equal(a.Data, b.Data)
}

func samePatches(a, b []api.Patch) bool { return slices.EqualFunc(a, b, samePatch) }

func sameRows(a, b [][]api.Patch) bool { return slices.EqualFunc(a, b, samePatches) }

func samePlan(a, b api.Plan) bool {
	return a.Row == b.Row && a.Mode == b.Mode && a.Parity == b.Parity && samePatches(a.Puts, b.Puts) && slices.Equal(a.Reads, b.Reads)
}

func sameSectors(a, b [][]byte) bool { return slices.EqualFunc(a, b, slices.Equal) }

func samePuts(a, b []api.Put) bool {
	return slices.EqualFunc(a, b, func(x, y api.Put) bool { return x.Block == y.Block && slices.Equal(x.Data, y.Data) })
}

// copyOfPatches, and the others, share nothing with what they are copies of.
func copyOfPatches(l []api.Patch) []api.Patch {
	l = slices.Clone(l)
	for i := range l {
		l[i].Data = slices.Clone(l[i].Data)
	}
	return l
}

func copyOfRows(l [][]api.Patch) [][]api.Patch {
	l = slices.Clone(l)
	for i := range l {
		l[i] = copyOfPatches(l[i])
	}
	return l
}

func copyOfPuts(l []api.Put) []api.Put {
	l = slices.Clone(l)
	for i := range l {
		l[i].Data = slices.Clone(l[i].Data)
	}
	return l
}

func copyOfPlan(p api.Plan) api.Plan {
	p.Puts, p.Reads = copyOfPatches(p.Puts), slices.Clone(p.Reads)
	return p
}

func copyOfSectors(l [][]byte) [][]byte {
	l = slices.Clone(l)
	for i := range l {
		l[i] = slices.Clone(l[i])
	}
	return l
}

// told is a short form of patches: the member, the row, how many bytes, and the first two of them.
func told(l []api.Patch) string {
	s := ""
	for _, p := range l {
		s += fmt.Sprintf(" {%d %d: %d, % x}", p.Member, p.Row, len(p.Data), p.Data[:min(2, len(p.Data))])
	}
	return "[" + s + " ]"
}

func toldRows(l [][]api.Patch) string {
	s := ""
	for _, row := range l {
		s += told(row)
	}
	return s
}

func toldPlan(p api.Plan) string {
	return fmt.Sprintf("row %d, mode %d, parity %d, reads %v, puts %s", p.Row, p.Mode, p.Parity, p.Reads, told(p.Puts))
}

// wantSplit wants Split and Most to say of a batch what the plain ones say.
func wantSplit(t *testing.T, g api.Geometry, l []api.Put) [][]api.Patch {
	t.Helper()
	rows, e := plan.Split(g, l)
	if want := plainSplit(g, l); e != api.OK || !sameRows(rows, want) {
		t.Errorf("%+v: Split of %d: %s, %v; want %s", g, len(l), toldRows(rows), e, toldRows(want))
	}
	wantMost(t, g, l, plainMost(g, l))
	return rows
}

func wantMost(t *testing.T, g api.Geometry, l []api.Put, want int) {
	t.Helper()
	if n, e := plan.Most(g, l); n != want || e != api.OK {
		t.Errorf("%+v: Most of %d: %d, %v; want %d", g, len(l), n, e, want)
	}
}

// wantNoSplit wants both to refuse a batch, and to give nothing beside the error.
func wantNoSplit(t *testing.T, g api.Geometry, l []api.Put, want api.Errno) {
	t.Helper()
	if rows, e := plan.Split(g, l); len(rows) != 0 || e != want {
		t.Errorf("%+v: Split of %d: %s, %v; want nothing, %v", g, len(l), toldRows(rows), e, want)
	}
	if n, e := plan.Most(g, l); n != 0 || e != want {
		t.Errorf("%+v: Most of %d: %d, %v; want 0, %v", g, len(l), n, e, want)
	}
}

// wantPlan wants such a mode, and such members to be read, and the other fields as the patches say.
func wantPlan(t *testing.T, g api.Geometry, d []bool, l []api.Patch, mode api.Mode, reads ...int) api.Plan {
	t.Helper()
	want := api.Plan{Row: l[0].Row, Mode: mode, Parity: plainParity(g, l[0].Row), Puts: l, Reads: reads}
	p, e := plan.Of(g, d, l)
	if e != api.OK || !samePlan(p, want) {
		t.Errorf("%+v: Of, down %v: %s, %v; want %s", g, d, toldPlan(p), e, toldPlan(want))
	}
	return p
}

// wantNoPlan wants the patches to be refused, and nothing beside the error.
func wantNoPlan(t *testing.T, g api.Geometry, d []bool, l []api.Patch, want api.Errno) {
	t.Helper()
	p, e := plan.Of(g, d, l)
	if e != want || p.Row != 0 || p.Mode != 0 || p.Parity != 0 || len(p.Puts) != 0 || len(p.Reads) != 0 {
		t.Errorf("%+v: Of, down %v, patches %s: %s, %v; want nothing, %v", g, d, told(l), toldPlan(p), e, want)
	}
}

// planned is a plan that there has to be.
func planned(t *testing.T, g api.Geometry, d []bool, l []api.Patch) api.Plan {
	t.Helper()
	p, e := plan.Of(g, d, l)
	if e != api.OK {
		t.Fatalf("%+v: Of, down %v, patches %s: %v", g, d, told(l), e)
	}
	return p
}

func wantWork(t *testing.T, g api.Geometry, d []bool, p api.Plan, read [][]byte, want []api.Patch) []api.Patch {
	t.Helper()
	l, e := plan.Work(g, d, p, read)
	if e != api.OK || !samePatches(l, want) {
		t.Errorf("%+v: Work, down %v, %s: %s, %v; want %s", g, d, toldPlan(p), told(l), e, told(want))
	}
	return l
}

// wantNoWork wants a plan to be refused, and nothing beside the error.
func wantNoWork(t *testing.T, g api.Geometry, d []bool, p api.Plan, read [][]byte, want api.Errno) {
	t.Helper()
	if l, e := plan.Work(g, d, p, read); len(l) != 0 || e != want {
		t.Errorf("%+v: Work, down %v, %s: %s, %v; want nothing, %v", g, d, toldPlan(p), told(l), e, want)
	}
}

func wantSolved(t *testing.T, g api.Geometry, row, member int, read [][]byte, want []byte) []byte {
	t.Helper()
	b, e := plan.Solve(g, row, member, read)
	if e != api.OK || !slices.Equal(b, want) {
		t.Errorf("%+v: Solve(%d, %d): % x, %v; want % x", g, row, member, b, e, want)
	}
	return b
}

// wantNotSolved wants nothing beside an error.
func wantNotSolved(t *testing.T, g api.Geometry, row, member int, read [][]byte, want api.Errno) {
	t.Helper()
	if b, e := plan.Solve(g, row, member, read); len(b) != 0 || e != want {
		t.Errorf("%+v: Solve(%d, %d) of %d: %d bytes, %v; want nothing, %v", g, row, member, len(read), len(b), e, want)
	}
}
