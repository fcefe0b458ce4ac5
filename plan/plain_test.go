package plan_test

import (
	"slices"

	"spindle/api"
)

// plainPlace is where a block is, found by laying one block after the other as chapter 6 tells it.
func plainPlace(g api.Geometry, block int) (member, row int) {
	perStripe := (g.Members - 1) * g.Chunk
	stripe := 0
	for block >= perStripe {
		block -= perStripe
		stripe++
	}
	member = plainParity(g, stripe*g.Chunk)
	for d := 0; d <= block; d += g.Chunk {
		member = (member + 1) % g.Members
	}
	return member, stripe*g.Chunk + block%g.Chunk
}

// plainParity goes back by one member with each stripe.
func plainParity(g api.Geometry, row int) int {
	parity := g.Members - 1
	for ; row >= g.Chunk; row -= g.Chunk {
		parity = (parity + g.Members - 1) % g.Members
	}
	return parity
}

// plainSplit goes through all rows and members, and takes for each the last block that is there.
func plainSplit(g api.Geometry, l []api.Put) [][]api.Patch {
	last := map[[2]int][]byte{}
	for _, p := range l {
		member, row := plainPlace(g, p.Block)
		last[[2]int{row, member}] = p.Data
	}
	rows := [][]api.Patch{}
	for row := range g.Chunk * g.Stripes {
		line := []api.Patch{}
		for member := range g.Members {
			if b, is := last[[2]int{row, member}]; is {
				line = append(line, api.Patch{Member: member, Row: row, Data: b})
			}
		}
		if len(line) > 0 {
			rows = append(rows, line)
		}
	}
	return rows
}

// plainMost counts unlike blocks, and unlike rows.
func plainMost(g api.Geometry, l []api.Put) int {
	blocks, rows := []int{}, []int{}
	for _, p := range l {
		_, row := plainPlace(g, p.Block)
		blocks, rows = append(blocks, p.Block), append(rows, row)
	}
	slices.Sort(blocks)
	slices.Sort(rows)
	return len(slices.Compact(blocks)) + len(slices.Compact(rows))
}

// plainMode goes down the chapter's table, line by line; gone is the member that is down.
func plainMode(members, parity, gone int, given []int) (api.Mode, []int) {
	withParity := append(slices.Clone(given), parity)
	slices.Sort(withParity)
	others := []int{}
	for m := range members {
		if !slices.Contains(withParity, m) {
			others = append(others, m)
		}
	}
	table := []struct {
		holds bool
		mode  api.Mode
		reads []int
	}{
		{len(given) == members-1, api.ModeFull, nil},
		{gone == parity, api.ModeBare, nil},
		{slices.Contains(given, gone), api.ModeRest, others},
		{gone != none, api.ModeModify, withParity},
		{members-1-len(given) < len(given)+1, api.ModeRest, others},
		{true, api.ModeModify, withParity},
	}
	line := slices.IndexFunc(table, func(x struct {
		holds bool
		mode  api.Mode
		reads []int
	}) bool {
		return x.holds
	})
	return table[line].mode, table[line].reads
}

// plainWork is what is written, with the parity of given sectors and of those that the mode reads.
func plainWork(g api.Geometry, gone int, given []api.Patch, read [][]byte) []api.Patch {
	row, l := given[0].Row, []api.Patch{}
	parity := plainParity(g, row)
	members, added := []int{}, [][]byte{}
	for _, p := range given {
		members, added = append(members, p.Member), append(added, p.Data)
		if p.Member != gone {
			l = append(l, p)
		}
	}
	_, reads := plainMode(g.Members, parity, gone, members)
	for _, m := range reads {
		added = append(added, read[m])
	}
	if parity != gone {
		at := 0
		for at < len(l) && l[at].Member < parity {
			at++
		}
		l = slices.Insert(l, at, api.Patch{Member: parity, Row: row, Data: plainSum(added...)})
	}
	return l
}

// plainSum is the exclusive or of sectors.
func plainSum(l ...[]byte) []byte {
	sum := make([]byte, 128)
	for _, b := range l {
		for i := range sum {
			sum[i] ^= b[i]
		}
	}
	return sum
}

// subsets are all sets of some of these members, each in ascending order; the empty one is not among them.
func subsets(members []int) [][]int {
	l := [][]int{}
	for bits := 1; bits < 1<<len(members); bits++ {
		set := []int{}
		for i, m := range members {
			if bits>>i&1 == 1 {
				set = append(set, m)
			}
		}
		l = append(l, set)
	}
	return l
}

// withBlocks are the members with the blocks of a row, in ascending order.
func withBlocks(g api.Geometry, row int) []int {
	l := []int{}
	for m := range g.Members {
		if m != plainParity(g, row) {
			l = append(l, m)
		}
	}
	return l
}
