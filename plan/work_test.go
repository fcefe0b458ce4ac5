package plan_test

import (
	"slices"
	"testing"

	"spindle/api"
	"spindle/plan"
)

// only has the sectors of these members, and of the others nothing.
func only(l [][]byte, members ...int) [][]byte {
	few := make([][]byte, len(l))
	for _, m := range members {
		few[m] = l[m]
	}
	return few
}

// xored is a patch with the exclusive or of some bytes.
func xored(member, row int, l ...[]byte) api.Patch {
	return api.Patch{Member: member, Row: row, Data: plainSum(l...)}
}

// The chapter's second and third example, with what is written.
func TestWorkExamples(t *testing.T) {
	g, read := example(), [][]byte{full(2), full(4), full(8), full(7)}
	one := api.Patch{Member: 0, Data: full(1)}
	two := []api.Patch{one, {Member: 1, Data: full(16)}}
	three := append(slices.Clone(two), api.Patch{Member: 2, Data: full(32)})
	for _, c := range []struct {
		gone  int
		given []api.Patch
		want  []api.Patch
	}{
		{none, []api.Patch{one}, []api.Patch{one, {Member: 3, Data: full(1 ^ 2 ^ 7)}}},
		{none, two, []api.Patch{two[0], two[1], {Member: 3, Data: full(1 ^ 16 ^ 8)}}},
		{none, three, []api.Patch{three[0], three[1], three[2], {Member: 3, Data: full(1 ^ 16 ^ 32)}}},
		{3, []api.Patch{one}, []api.Patch{one}},
		{0, []api.Patch{one}, []api.Patch{{Member: 3, Data: full(1 ^ 4 ^ 8)}}},
		{1, []api.Patch{one}, []api.Patch{one, {Member: 3, Data: full(1 ^ 2 ^ 7)}}},
		{3, three, three},
		{1, three, []api.Patch{three[0], three[2], {Member: 3, Data: full(1 ^ 16 ^ 32)}}},
		{0, two, []api.Patch{two[1], {Member: 3, Data: full(1 ^ 16 ^ 8)}}},
		{2, two, []api.Patch{two[0], two[1], {Member: 3, Data: full(1 ^ 16 ^ 2 ^ 4 ^ 7)}}},
	} {
		d := down(4, c.gone)
		wantWork(t, g, d, planned(t, g, d, c.given), read, c.want)
	}
}

// The parity is among the others, by its member, where it isn't on the last one.
func TestWorkOfParitiesElsewhere(t *testing.T) {
	g, read := example(), sectors(4)
	l := patches(2, 0, 3) // the parity of row 2 is on member 2
	wantWork(t, g, down(4), planned(t, g, down(4), l), read, []api.Patch{l[0], xored(2, 2, l[0].Data, l[1].Data, read[1]), l[1]})
	wantWork(t, g, down(4, 0), planned(t, g, down(4, 0), l), read, []api.Patch{xored(2, 2, l[0].Data, l[1].Data, read[1]), l[1]})
	wantWork(t, g, down(4, 1), planned(t, g, down(4, 1), l), read,
		[]api.Patch{l[0], xored(2, 2, l[0].Data, l[1].Data, read[0], read[2], read[3]), l[1]})
	wantWork(t, g, down(4, 2), planned(t, g, down(4, 2), l), read, l)
	l = patches(7, 1, 2, 3) // and of row 7 on member 0
	wantWork(t, g, down(4), planned(t, g, down(4), l), read, []api.Patch{xored(0, 7, l[0].Data, l[1].Data, l[2].Data), l[0], l[1], l[2]})
	wantWork(t, g, down(4, 3), planned(t, g, down(4, 3), l), read, []api.Patch{xored(0, 7, l[0].Data, l[1].Data, l[2].Data), l[0], l[1]})
	l = patches(6, 2)
	wantWork(t, g, down(4), planned(t, g, down(4), l), read, []api.Patch{xored(0, 6, l[0].Data, read[0], read[2]), l[0]})
	wantWork(t, g, down(4, 2), planned(t, g, down(4, 2), l), read, []api.Patch{xored(0, 6, l[0].Data, read[1], read[3])})
}

// Each set of given blocks of small rows, with each member down and with none; nothing but what is in Reads has to be there.
func TestWorkOfAllSmallRows(t *testing.T) {
	for members := 3; members <= 7; members++ {
		g, read := of(members, 2, members+1), sectors(members)
		for row := range g.Chunk * g.Stripes {
			for _, given := range subsets(withBlocks(g, row)) {
				for gone := none; gone < members; gone++ {
					d, l := down(members, gone), patches(row, given...)
					p := planned(t, g, d, l)
					want := plainWork(g, gone, l, read)
					wantWork(t, g, d, p, read, want)
					wantWork(t, g, d, p, only(read, p.Reads...), want)
				}
			}
		}
	}
}

func TestWorkOfGreatRows(t *testing.T) {
	g, read := of(16, 16, 256), sectors(16)
	for _, row := range []int{0, 15, 16, 255, 256, 2000, 4095} {
		members := withBlocks(g, row)
		for n := 1; n <= len(members); n++ {
			for gone := none; gone < 16; gone++ {
				d, l := down(16, gone), patches(row, members[len(members)-n:]...)
				p := planned(t, g, d, l)
				wantWork(t, g, d, p, only(read, p.Reads...), plainWork(g, gone, l, read))
			}
		}
	}
}

// A sector that is not in Reads is none that is considered, whatever its length, and whatever its bytes.
func TestWorkConsidersReadsOnly(t *testing.T) {
	g, read := of(5, 1, 5), sectors(5)
	for row := range 5 {
		for _, given := range subsets(withBlocks(g, row)) {
			for gone := none; gone < 5; gone++ {
				d, l := down(5, gone), patches(row, given...)
				p := planned(t, g, d, l)
				want := plainWork(g, gone, l, read)
				for _, n := range []int{0, 1, 127, 128, 129, 4096} {
					other := slices.Clone(read)
					for m := range other {
						if !slices.Contains(p.Reads, m) {
							other[m] = bytesOf(77+m, n)
						}
					}
					wantWork(t, g, d, p, other, want)
				}
			}
		}
	}
}

// What was read may be equal, or zeros, or one and the same slice.
func TestWorkOfAnyBytes(t *testing.T) {
	g := example()
	l := patches(0, 0)
	p := planned(t, g, down(4), l)
	wantWork(t, g, down(4), p, slices.Repeat([][]byte{full(0)}, 4), []api.Patch{l[0], xored(3, 0, l[0].Data)})
	wantWork(t, g, down(4), p, slices.Repeat([][]byte{data(4)}, 4), []api.Patch{l[0], xored(3, 0, l[0].Data)})
	wantWork(t, g, down(4), p, [][]byte{l[0].Data, nil, nil, full(0)}, []api.Patch{l[0], xored(3, 0)})
	l = []api.Patch{{Member: 0, Data: full(9)}, {Member: 1, Data: full(9)}}
	p = planned(t, g, down(4), l)
	wantWork(t, g, down(4), p, [][]byte{nil, nil, data(5), nil}, []api.Patch{l[0], l[1], xored(3, 0, data(5))})
}

// Nil Reads and empty ones are equal.
func TestWorkOfNoReads(t *testing.T) {
	g := example()
	for _, x := range []struct {
		gone  int
		given []int
	}{{none, []int{0, 1, 2}}, {3, []int{0}}, {3, []int{0, 2}}, {2, []int{0, 1, 2}}} {
		d, l := down(4, x.gone), patches(0, x.given...)
		p := planned(t, g, d, l)
		for _, reads := range [][]int{nil, {}, make([]int, 0, 4)} {
			p.Reads = reads
			wantWork(t, g, d, p, make([][]byte, 4), plainWork(g, x.gone, l, nil))
		}
	}
}

// others are plans that differ from p in one field each.
func others(p api.Plan) []api.Plan {
	l := []api.Plan{}
	add := func(change func(p *api.Plan)) {
		other := copyOfPlan(p)
		change(&other)
		l = append(l, other)
	}
	for _, n := range append(wild(), p.Row-1, p.Row+1, p.Row+2, -1, 0, 1, 9, 10) {
		if n != p.Row {
			add(func(p *api.Plan) { p.Row = n })
		}
	}
	for mode := api.Mode(0); mode < 255; mode++ {
		if mode != p.Mode {
			add(func(p *api.Plan) { p.Mode = mode })
		}
	}
	for _, n := range append(wild(), -1, 0, 1, 2, 3, 4) {
		if n != p.Parity {
			add(func(p *api.Plan) { p.Parity = n })
		}
	}
	for m := range 4 {
		if !slices.Contains(p.Reads, m) {
			add(func(p *api.Plan) { p.Reads = append(p.Reads, m); slices.Sort(p.Reads) })
			add(func(p *api.Plan) { p.Reads = append(p.Reads, m) })
		}
	}
	for _, n := range wild() {
		add(func(p *api.Plan) { p.Reads = append(p.Reads, n) })
	}
	for i, m := range p.Reads {
		add(func(p *api.Plan) { p.Reads = slices.Delete(p.Reads, i, i+1) })
		add(func(p *api.Plan) { p.Reads = slices.Insert(p.Reads, i, m) })
		for _, n := range append(wild(), -1, 4, (m+1)%4) {
			add(func(p *api.Plan) { p.Reads[i] = n })
		}
	}
	if len(p.Reads) > 0 {
		add(func(p *api.Plan) { p.Reads = nil })
		add(func(p *api.Plan) { p.Reads = []int{} })
	}
	if len(p.Reads) > 1 {
		add(func(p *api.Plan) { slices.Reverse(p.Reads) })
	}
	return slices.DeleteFunc(l, func(x api.Plan) bool { return samePlan(x, p) })
}

// refusedPuts are lists of patches of which Of makes no plan, or another one than for the members 0 and 1 of row 0.
func refusedPuts() [][]api.Patch {
	short := patches(0, 0, 1)
	short[1].Data = short[1].Data[:127]
	long := patches(0, 0, 1)
	long[0].Data = append(long[0].Data, 0)
	return [][]api.Patch{
		nil, {}, patches(0, 1, 0), patches(0, 0, 0), patches(0, 0, 1, 1), patches(0, 0, 3), patches(0, 0, 4), patches(0, -1, 1), patches(10, 0, 1),
		patches(-1, 0, 1), append(patches(0, 0), patches(1, 1)...), short, long,
		patches(0, 0), patches(0, 1), patches(0, 0, 2), patches(0, 0, 1, 2), patches(1, 0, 1), patches(8, 0, 1), patches(2, 0, 1),
	}
}

func TestWorkRefusesOtherPlans(t *testing.T) {
	g, read := example(), sectors(4)
	for _, row := range []int{0, 1, 4, 7} {
		for _, given := range subsets(withBlocks(g, row)) {
			for gone := none; gone < 4; gone++ {
				d := down(4, gone)
				p := planned(t, g, d, patches(row, given...))
				for _, other := range others(p) {
					wantNoWork(t, g, d, other, read, api.ErrArg)
				}
			}
		}
	}
}

func TestWorkRefusesOtherPuts(t *testing.T) {
	g, read := example(), sectors(4)
	p := planned(t, g, down(4), patches(0, 0, 1))
	for _, l := range refusedPuts() {
		p.Puts = l
		wantNoWork(t, g, down(4), p, read, api.ErrArg)
		wantNoWork(t, g, down(4, 3), p, read, api.ErrArg)
	}
	wantNoWork(t, g, down(4), api.Plan{}, read, api.ErrArg)
	wantNoWork(t, g, down(4), api.Plan{Mode: api.ModeFull, Parity: 3}, read, api.ErrArg)
	// Other bytes of the same length are those that are written, as the plan is the same otherwise.
	p.Puts = patches(0, 0, 1)
	p.Puts[1].Data = data(12345)
	wantWork(t, g, down(4), p, read, plainWork(g, none, p.Puts, read))
}

// A plan that was made while other members were down, or for another geometry.
func TestWorkRefusesPlansOfOtherCircumstances(t *testing.T) {
	g, read := example(), sectors(4)
	for _, given := range subsets(withBlocks(g, 0)) {
		for a := none; a < 4; a++ {
			for b := none; b < 4; b++ {
				p := planned(t, g, down(4, a), patches(0, given...))
				q := planned(t, g, down(4, b), patches(0, given...))
				if samePlan(p, q) {
					wantWork(t, g, down(4, b), p, read, plainWork(g, b, p.Puts, read))
				} else {
					wantNoWork(t, g, down(4, b), p, read, api.ErrArg)
				}
				if a != b && a != none && b != none {
					wantNoWork(t, g, down(4, a, b), p, read, api.ErrArg)
				}
			}
		}
	}
	p := planned(t, of(5, 2, 5), down(5), patches(0, 0))
	wantNoWork(t, g, down(4), p, read, api.ErrArg)
	p = planned(t, of(4, 1, 5), down(4), patches(2, 2)) // there the parity is on member 1
	wantNoWork(t, g, down(4), p, read, api.ErrArg)
	p = planned(t, of(4, 2, 9), down(4), patches(0, 0)) // nothing of this row hangs on the stripes
	wantWork(t, g, down(4), p, read, plainWork(g, none, p.Puts, read))
}

func TestWorkRefusesGeometries(t *testing.T) {
	p := planned(t, example(), down(4), patches(0, 0))
	for _, g := range invalid() {
		for _, n := range []int{0, 3, 4, 5} {
			wantNoWork(t, g, make([]bool, n), p, sectors(n), api.ErrGeomForm)
			wantNoWork(t, g, make([]bool, 4), api.Plan{}, sectors(n), api.ErrGeomForm)
			wantNoWork(t, g, slices.Repeat([]bool{true}, 4), p, make([][]byte, n), api.ErrGeomForm)
		}
	}
}

func TestWorkRefusesNumbersOfElements(t *testing.T) {
	for _, g := range some() {
		d := down(g.Members)
		for _, l := range [][]api.Patch{patches(0, withBlocks(g, 0)...), patches(0, withBlocks(g, 0)[0])} {
			p := planned(t, g, d, l)
			for _, n := range []int{0, 1, g.Members - 1, g.Members + 1, 2 * g.Members, 256 + g.Members} {
				wantNoWork(t, g, d, p, sectors(n), api.ErrArg)
				wantNoWork(t, g, d, p, make([][]byte, n), api.ErrArg)
				wantNoWork(t, g, make([]bool, n), p, sectors(g.Members), api.ErrArg)
			}
			wantNoWork(t, g, d, p, nil, api.ErrArg)
			wantNoWork(t, g, d, p, sectors(g.Members)[:g.Members-1], api.ErrArg)
			wantNoWork(t, g, nil, p, sectors(g.Members), api.ErrArg)
		}
	}
}

// Each sector in Reads has to have 128 bytes.
func TestWorkRefusesLengths(t *testing.T) {
	g := of(5, 1, 5)
	for row := range 5 {
		for _, given := range subsets(withBlocks(g, row)) {
			for gone := none; gone < 5; gone++ {
				d := down(5, gone)
				p := planned(t, g, d, patches(row, given...))
				for _, m := range p.Reads {
					for _, n := range wrongLengths() {
						read := sectors(5)
						read[m] = bytesOf(1, n)
						wantNoWork(t, g, d, p, read, api.ErrLength)
						wantNoWork(t, g, d, p, only(read, p.Reads...), api.ErrLength)
					}
					read := sectors(5)
					read[m] = nil
					wantNoWork(t, g, d, p, read, api.ErrLength)
					read[m] = make([]byte, 127, 128)
					wantNoWork(t, g, d, p, read, api.ErrLength)
				}
				if len(p.Reads) > 0 { // also if all of them are equally long
					wantNoWork(t, g, d, p, slices.Repeat([][]byte{bytesOf(1, 127)}, 5), api.ErrLength)
					wantNoWork(t, g, d, p, slices.Repeat([][]byte{bytesOf(1, 129)}, 5), api.ErrLength)
					wantNoWork(t, g, d, p, make([][]byte, 5), api.ErrLength)
				}
			}
		}
	}
}

// Several errors at once: a geometry, then the plan and the numbers of elements, then a length.
func TestWorkErrorsInOrder(t *testing.T) {
	g, none := example(), make([][]byte, 4)
	p := planned(t, g, down(4), patches(0, 0, 1))
	for _, l := range refusedPuts() {
		other := p
		other.Puts = l
		wantNoWork(t, g, down(4), other, none, api.ErrArg)
		wantNoWork(t, g, down(4), other, none[:3], api.ErrArg)
		wantNoWork(t, of(2, 2, 5), down(4), other, none, api.ErrGeomForm)
	}
	for _, other := range others(p) {
		wantNoWork(t, g, down(4), other, none, api.ErrArg)
	}
	wantNoWork(t, g, down(4), p, none, api.ErrLength)
	wantNoWork(t, g, down(4), p, make([][]byte, 3), api.ErrArg)
	wantNoWork(t, g, down(4), p, make([][]byte, 5), api.ErrArg)
	wantNoWork(t, g, down(5), p, none, api.ErrArg)
	wantNoWork(t, g, down(4, 0, 1), p, none, api.ErrArg)
	wantNoWork(t, of(4, 2, 257), down(4), p, none, api.ErrGeomForm)
	wantNoWork(t, of(4, 2, 257), down(5), api.Plan{}, nil, api.ErrGeomForm)
}

// Work of a row with everything given takes no reading, and says the same again.
func TestWorkSaysTheSameAgain(t *testing.T) {
	g, read := of(6, 1, 6), sectors(6)
	p := planned(t, g, down(6), patches(2, 0, 4))
	want, _ := plan.Work(g, down(6), p, read)
	for range 10 {
		wantNoWork(t, g, down(6, 1), p, read[:5], api.ErrArg)
		wantWork(t, g, down(6), p, read, want)
	}
}
