package plan_test

import (
	"slices"
	"testing"

	"spindle/api"
	"spindle/plan"
)

// The chapter's second, third and fourth example.
func TestOfExamples(t *testing.T) {
	g := example()
	wantPlan(t, g, down(4), patches(0, 0), api.ModeModify, 0, 3)
	wantPlan(t, g, down(4), patches(0, 0, 1), api.ModeRest, 2)
	wantPlan(t, g, down(4), patches(0, 0, 1, 2), api.ModeFull)
	wantPlan(t, g, down(4, 3), patches(0, 0), api.ModeBare)
	wantPlan(t, g, down(4, 0), patches(0, 0), api.ModeRest, 1, 2)
	wantPlan(t, g, down(4, 1), patches(0, 0), api.ModeModify, 0, 3)
	wantNoPlan(t, g, down(4, 0, 1), patches(0, 0), api.ErrPlanLost)
	wantNoPlan(t, g, down(4), patches(0, 3), api.ErrArg)
}

// Rows of which the parity is on another member, drawn by hand.
func TestOfRowsWithParitiesElsewhere(t *testing.T) {
	g := example()
	wantPlan(t, g, down(4), patches(2, 0), api.ModeModify, 0, 2)
	wantPlan(t, g, down(4), patches(3, 3), api.ModeModify, 2, 3)
	wantPlan(t, g, down(4), patches(4, 2), api.ModeModify, 1, 2)
	wantPlan(t, g, down(4), patches(6, 3), api.ModeModify, 0, 3)
	wantPlan(t, g, down(4), patches(7, 1, 3), api.ModeRest, 2)
	wantPlan(t, g, down(4), patches(2, 0, 1, 3), api.ModeFull)
	wantPlan(t, g, down(4, 3), patches(7, 3), api.ModeRest, 1, 2)
	wantPlan(t, g, down(4, 1), patches(7, 3), api.ModeModify, 0, 3)
	wantPlan(t, g, down(4, 0), patches(7, 3), api.ModeBare)
	wantPlan(t, g, down(4, 0), patches(9, 1, 2), api.ModeModify, 1, 2, 3)
	wantPlan(t, g, down(4, 3), patches(9, 1, 2), api.ModeBare)
	wantPlan(t, g, down(4, 2), patches(9, 1, 2), api.ModeRest, 0)
}

// With no member down: how many are given decides, on both sides of the comparison.
func TestOfNumbersOfGivenBlocks(t *testing.T) {
	for members := 3; members <= 16; members++ {
		g := of(members, 1, 1) // the parity is on the last one
		for n := 1; n < members; n++ {
			given, others := []int{}, []int{}
			for m := range members - 1 {
				if m < n {
					given = append(given, m)
				} else {
					others = append(others, m)
				}
			}
			switch {
			case n == members-1:
				wantPlan(t, g, down(members), patches(0, given...), api.ModeFull)
			case 2*n >= members-1: // N - 1 - n < n + 1
				wantPlan(t, g, down(members), patches(0, given...), api.ModeRest, others...)
			default:
				wantPlan(t, g, down(members), patches(0, given...), api.ModeModify, append(given, members-1)...)
			}
		}
	}
	// The numbers next to one another, as they are: with 6 members 2 or 3 of 5, with 7 members 2 or 3 of 6.
	wantPlan(t, of(6, 1, 1), down(6), patches(0, 1, 3), api.ModeModify, 1, 3, 5)
	wantPlan(t, of(6, 1, 1), down(6), patches(0, 1, 2, 4), api.ModeRest, 0, 3)
	wantPlan(t, of(7, 1, 1), down(7), patches(0, 1, 3), api.ModeModify, 1, 3, 6)
	wantPlan(t, of(7, 1, 1), down(7), patches(0, 1, 3, 5), api.ModeRest, 0, 2, 4)
	wantPlan(t, of(3, 1, 1), down(3), patches(0, 1), api.ModeRest, 0)
}

// Two conditions at once: the first one in the table counts.
func TestOfConditionsAtOnce(t *testing.T) {
	g := of(5, 1, 5)
	// All are given, and a member of any kind is down.
	for m := range 5 {
		wantPlan(t, g, down(5, m), patches(0, 0, 1, 2, 3), api.ModeFull)
		wantPlan(t, g, down(5, m), patches(3, 0, 2, 3, 4), api.ModeFull)
	}
	// The parity is down, and the numbers of given blocks would ask for either mode.
	for _, given := range [][]int{{0}, {3}, {0, 1}, {0, 1, 2}, {1, 2, 3}} {
		wantPlan(t, g, down(5, 4), patches(0, given...), api.ModeBare)
	}
	// A given one is down: one block, which would be modified, or two, or three.
	wantPlan(t, g, down(5, 2), patches(0, 2), api.ModeRest, 0, 1, 3)
	wantPlan(t, g, down(5, 2), patches(0, 1, 2), api.ModeRest, 0, 3)
	wantPlan(t, g, down(5, 2), patches(0, 0, 1, 2), api.ModeRest, 3)
	// Another one is down: also where few others would have to be read.
	wantPlan(t, g, down(5, 2), patches(0, 0), api.ModeModify, 0, 4)
	wantPlan(t, g, down(5, 2), patches(0, 0, 3), api.ModeModify, 0, 3, 4)
	wantPlan(t, g, down(5, 2), patches(0, 0, 1, 3), api.ModeModify, 0, 1, 3, 4)
	// And the same blocks with all members there.
	wantPlan(t, g, down(5), patches(0, 0), api.ModeModify, 0, 4)
	wantPlan(t, g, down(5), patches(0, 0, 3), api.ModeRest, 1, 2)
	wantPlan(t, g, down(5), patches(0, 0, 1, 3), api.ModeRest, 2)
}

// wantModes holds the plan of each set of given blocks of a row, with each member down and with none, against the table.
func wantModes(t *testing.T, g api.Geometry, row int, sets [][]int) {
	t.Helper()
	for gone := none; gone < g.Members; gone++ {
		for _, given := range sets {
			mode, reads := plainMode(g.Members, plainParity(g, row), gone, given)
			p := wantPlan(t, g, down(g.Members, gone), patches(row, given...), mode, reads...)
			if !slices.IsSorted(p.Reads) || slices.Contains(p.Reads, gone) || len(p.Reads) > g.Members-1 {
				t.Errorf("%+v: down %d, given %v: reads %v", g, gone, given, p.Reads)
			}
		}
	}
}

func TestOfAllModesOfSmallRows(t *testing.T) {
	for members := 3; members <= 8; members++ {
		g := of(members, 2, members+1)
		for row := range g.Chunk * g.Stripes {
			wantModes(t, g, row, subsets(withBlocks(g, row)))
		}
	}
}

// Of great rows: each number of given blocks, as a run from each member on, and every other one.
func TestOfModesOfGreatRows(t *testing.T) {
	for _, g := range []api.Geometry{of(9, 1, 9), of(13, 16, 256), of(16, 16, 256)} {
		for _, row := range []int{0, g.Chunk, g.Chunk*g.Stripes/2 + 1, g.Chunk*g.Stripes - 1} {
			members := withBlocks(g, row%(g.Chunk*g.Stripes))
			sets := [][]int{}
			for first := range members {
				for n := 1; n <= len(members); n++ {
					set := []int{}
					for i := range n {
						set = append(set, members[(first+i*2+i*2/len(members))%len(members)])
					}
					slices.Sort(set)
					sets = append(sets, slices.Compact(set))
					if first+n <= len(members) {
						sets = append(sets, members[first:first+n])
					}
				}
			}
			wantModes(t, g, row%(g.Chunk*g.Stripes), sets)
		}
	}
}

func TestOfEachRow(t *testing.T) {
	for _, g := range some() {
		for row := range g.Chunk * g.Stripes {
			members := withBlocks(g, row)
			mode, reads := plainMode(g.Members, plainParity(g, row), none, members[:1])
			wantPlan(t, g, down(g.Members), patches(row, members[0]), mode, reads...)
			wantPlan(t, g, down(g.Members), patches(row, members...), api.ModeFull)
		}
	}
}

// The bytes of the patches make no difference, but that they are in the plan.
func TestOfAnyBytes(t *testing.T) {
	zeros := []api.Patch{{Member: 0, Row: 1, Data: full(0)}, {Member: 2, Row: 1, Data: full(0)}}
	wantPlan(t, example(), down(4), zeros, api.ModeRest, 1)
	shared := data(1)
	wantPlan(t, example(), down(4), []api.Patch{{Member: 0, Row: 1, Data: shared}, {Member: 2, Row: 1, Data: shared}}, api.ModeRest, 1)
}

func TestOfRefusesGeometries(t *testing.T) {
	for _, g := range invalid() {
		for _, n := range []int{0, 3, 4, 5, 17} {
			for _, l := range [][]api.Patch{nil, patches(0, 0), patches(-1, -1), patches(0, 1, 0), {{}}} {
				wantNoPlan(t, g, make([]bool, n), l, api.ErrGeomForm)
				wantNoPlan(t, g, slices.Repeat([]bool{true}, n), l, api.ErrGeomForm)
			}
		}
	}
}

func TestOfRefusesNumbersOfElements(t *testing.T) {
	for _, g := range some() {
		l := patches(0, 0)
		for _, n := range []int{0, 1, 2, g.Members - 1, g.Members + 1, 2 * g.Members, 256 + g.Members, 65536 + g.Members} {
			if n != g.Members {
				wantNoPlan(t, g, make([]bool, n), l, api.ErrArg)
				wantNoPlan(t, g, slices.Repeat([]bool{true}, n), l, api.ErrArg)
				wantNoPlan(t, g, make([]bool, n), nil, api.ErrArg)
			}
		}
		wantNoPlan(t, g, nil, l, api.ErrArg)
		wantNoPlan(t, g, make([]bool, g.Members-1, g.Members), l, api.ErrArg)
		for _, d := range [][]bool{down(g.Members), down(g.Members, 0), down(g.Members, 0, 1)} {
			wantNoPlan(t, g, d, nil, api.ErrArg)
			wantNoPlan(t, g, d, []api.Patch{}, api.ErrArg)
			wantNoPlan(t, g, d, l[:0], api.ErrArg)
		}
	}
}

func TestOfRefusesMembersAndRows(t *testing.T) {
	for _, g := range some() {
		rows, d := g.Chunk*g.Stripes, down(g.Members)
		for _, m := range outside(g.Members) {
			wantNoPlan(t, g, d, patches(0, m), api.ErrRange)
			wantNoPlan(t, g, d, patches(0, 0, m), api.ErrRange)
			wantNoPlan(t, g, d, patches(0, m, 1), api.ErrRange)
			wantNoPlan(t, g, d, patches(rows-1, 0, 1, m), api.ErrRange)
		}
		for _, row := range outside(rows) {
			wantNoPlan(t, g, d, patches(row, 0), api.ErrRange)
			wantNoPlan(t, g, d, patches(row, 0, 1), api.ErrRange)
			wantNoPlan(t, g, d, append(patches(0, 0), patches(row, 1)...), api.ErrRange)
			wantNoPlan(t, g, d, append(patches(row, 0), patches(0, 1)...), api.ErrRange)
			wantNoPlan(t, g, d, patches(row, g.Members), api.ErrRange)
		}
	}
}

func TestOfRefusesUnlikeRows(t *testing.T) {
	for _, g := range some() {
		if rows := g.Chunk * g.Stripes; rows > 1 {
			a, b := withBlocks(g, 0), withBlocks(g, rows-1)
			for _, l := range [][]api.Patch{
				append(patches(0, a[0]), patches(rows-1, b[1])...), append(patches(rows-1, b[0]), patches(0, a[1])...),
				append(patches(1, withBlocks(g, 1)[0]), patches(0, a[len(a)-1])...), append(patches(0, a[0]), patches(rows-1, b[len(b)-1])...),
				append(patches(0, a[:len(a)-1]...), patches(1, g.Members-1)...),
			} {
				wantNoPlan(t, g, down(g.Members), l, api.ErrArg)
			}
		}
	}
	// Rows of one stripe, which have the same parity.
	g := example()
	wantNoPlan(t, g, down(4), append(patches(0, 0), patches(1, 1)...), api.ErrArg)
	wantNoPlan(t, g, down(4), append(patches(0, 0, 1), patches(1, 2)...), api.ErrArg)
	wantNoPlan(t, g, down(4), append(patches(0, 0), append(patches(1, 1), patches(0, 2)...)...), api.ErrArg)
	wantNoPlan(t, g, down(4), append(patches(0, 0), patches(1, 0)...), api.ErrArg)
	wantNoPlan(t, g, down(4), append(patches(0, 2), patches(8, 2)...), api.ErrArg)
}

func TestOfRefusesOrdersOfMembers(t *testing.T) {
	g := of(5, 1, 5)
	for _, l := range [][]int{
		{0, 0}, {1, 0}, {3, 3}, {3, 0}, {0, 1, 1}, {0, 0, 1}, {0, 2, 1}, {1, 0, 2}, {2, 1, 0}, {0, 1, 0}, {0, 1, 2, 2}, {0, 1, 3, 2}, {0, 1, 2, 3, 3},
		{0, 0, 1, 2, 3}, {0, 1, 2, 3, 0}, {3, 2, 1, 0}, slices.Repeat([]int{0}, 300),
	} {
		wantNoPlan(t, g, down(5), patches(0, l...), api.ErrArg)
		wantNoPlan(t, g, down(5, 2), patches(0, l...), api.ErrArg)
	}
	same := patches(0, 2)[0]
	wantNoPlan(t, g, down(5), []api.Patch{same, same}, api.ErrArg)
}

// The member with the parity of the row is none that may be given, wherever it stands.
func TestOfRefusesTheParity(t *testing.T) {
	for _, g := range some() {
		for row := range min(g.Chunk*g.Stripes, 300) {
			parity := plainParity(g, row)
			wantNoPlan(t, g, down(g.Members), patches(row, parity), api.ErrArg)
			wantNoPlan(t, g, down(g.Members, parity), patches(row, parity), api.ErrArg)
			for _, m := range withBlocks(g, row) {
				wantNoPlan(t, g, down(g.Members), patches(row, min(m, parity), max(m, parity)), api.ErrArg)
			}
			all := []int{}
			for m := range g.Members {
				all = append(all, m)
			}
			wantNoPlan(t, g, down(g.Members), patches(row, all...), api.ErrArg)
		}
	}
}

func TestOfRefusesLengths(t *testing.T) {
	for _, g := range some() {
		members := withBlocks(g, 0)
		for _, n := range wrongLengths() {
			for at := range members {
				l := patches(0, members...)
				l[at].Data = bytesOf(1, n)
				wantNoPlan(t, g, down(g.Members), l, api.ErrLength)
				wantNoPlan(t, g, down(g.Members, members[at]), l, api.ErrLength)
				wantNoPlan(t, g, down(g.Members), l[at:at+1], api.ErrLength)
			}
		}
		wantNoPlan(t, g, down(g.Members), []api.Patch{{Member: members[0]}}, api.ErrLength)
		wantNoPlan(t, g, down(g.Members), []api.Patch{{Member: members[0], Data: make([]byte, 127, 128)}}, api.ErrLength)
	}
}

func TestOfRefusesTwoDown(t *testing.T) {
	for _, g := range []api.Geometry{of(3, 1, 3), of(4, 2, 5), of(7, 1, 7), of(16, 16, 256)} {
		for _, row := range []int{0, g.Chunk, g.Chunk*g.Stripes - 1} {
			members := withBlocks(g, row)
			for a := range g.Members {
				for b := range a {
					for _, l := range [][]api.Patch{patches(row, members[0]), patches(row, members[1:]...), patches(row, members...)} {
						wantNoPlan(t, g, down(g.Members, a, b), l, api.ErrPlanLost)
						wantNoPlan(t, g, down(g.Members, a, b, (a+b)%g.Members), l, api.ErrPlanLost)
						wantNoPlan(t, g, slices.Repeat([]bool{true}, g.Members), l, api.ErrPlanLost)
					}
				}
			}
		}
	}
}

// Several errors at once: the one that the chapter names first.
func TestOfErrorsInOrder(t *testing.T) {
	g, lost := example(), down(4, 0, 3)
	short := func(member, row int) api.Patch { return api.Patch{Member: member, Row: row, Data: bytesOf(1, 127)} }
	whole := patches(0, 0)[0]
	beyond := [][]api.Patch{ // and a length, an order, unlike rows or the parity ahead of it or behind it
		{short(4, 0)}, {short(0, 10)}, {short(0, 0), whole, short(-1, 0)}, {short(-1, 0), whole, whole}, {whole, whole, short(3, -1)},
		{short(3, 0), short(4, 0)}, {short(0, 0), short(0, 1), short(0, 10)}, {short(3, 0), short(0, 0), whole, short(4, 0)},
	}
	wrong := [][]api.Patch{ // and a length ahead of it or behind it
		{short(3, 0)}, {short(0, 0), short(0, 0)}, {short(0, 0), short(1, 1)}, {short(1, 0), short(0, 0)}, {short(0, 0), patches(0, 3)[0]},
		{whole, whole, short(1, 0)}, {short(0, 0), patches(0, 1)[0], patches(1, 2)[0]}, {short(2, 0), patches(0, 1)[0]}, {short(2, 2), patches(2, 3)[0]},
	}
	for _, x := range []struct {
		lists [][]api.Patch
		want  api.Errno
	}{{beyond, api.ErrRange}, {wrong, api.ErrArg}, {[][]api.Patch{{short(0, 0)}, {whole, short(1, 0)}, {short(0, 0), patches(0, 1)[0]}}, api.ErrLength}} {
		for _, l := range x.lists {
			wantNoPlan(t, g, lost, l, x.want)
			wantNoPlan(t, g, down(4), l, x.want)
			wantNoPlan(t, g, lost[:3], l, api.ErrArg)
			wantNoPlan(t, g, append(lost, false), l, api.ErrArg)
			wantNoPlan(t, g, lost, l[:0], api.ErrArg)
			wantNoPlan(t, of(4, 2, 0), lost, l, api.ErrGeomForm)
			wantNoPlan(t, of(4, 2, 0), lost[:3], nil, api.ErrGeomForm)
		}
	}
	wantNoPlan(t, g, lost, patches(0, 0), api.ErrPlanLost)
}

// No two calls, whatever they are for, make a difference to one another.
func TestOfSaysTheSameAgain(t *testing.T) {
	g := of(7, 2, 7)
	want := planned(t, g, down(7, 2), patches(3, 0, 1, 3))
	for range 10 {
		wantNoPlan(t, g, down(7, 2, 3), patches(3, 0), api.ErrPlanLost)
		planned(t, of(3, 1, 1), down(3), patches(0, 0))
		if p, e := plan.Of(g, down(7, 2), patches(3, 0, 1, 3)); e != api.OK || !samePlan(p, want) {
			t.Errorf("Of: %s, %v; want %s", toldPlan(p), e, toldPlan(want))
		}
	}
}
