package plan

import (
	"slices"

	"spindle/api"
	"spindle/geom"
)

// row is one that is to be written; its members are told in ascending order.
type row struct {
	number int
	parity int   // the member that has it
	given  []int // the members of the blocks that are given
	rest   []int // those of the other blocks
	down   int   // the member that is down; -1 if none is
}

// rowOf is the row of patches for which there is a plan.
func rowOf(g api.Geometry, down []bool, puts []api.Patch) row {
	r := row{number: puts[0].Row, down: slices.Index(down, true)}
	r.parity, _ = geom.Parity(g, r.number)
	for _, p := range puts {
		r.given = append(r.given, p.Member)
	}
	for m := range g.Members {
		if m != r.parity && !slices.Contains(r.given, m) {
			r.rest = append(r.rest, m)
		}
	}
	return r
}

// mode is how the row is written: no member that is down may have to be read, and otherwise as few as can be.
func (r row) mode() api.Mode {
	switch {
	case len(r.rest) == 0:
		return api.ModeFull
	case r.down == r.parity:
		return api.ModeBare
	case slices.Contains(r.given, r.down):
		return api.ModeRest
	case r.down >= 0:
		return api.ModeModify
	case len(r.rest) < len(r.given)+1:
		return api.ModeRest
	}
	return api.ModeModify
}

// readers has, by the mode, what tells which members are read.
func (r row) readers() map[api.Mode]func() []int {
	return map[api.Mode]func() []int{
		api.ModeFull:   r.none,
		api.ModeModify: r.changed,
		api.ModeRest:   r.others,
		api.ModeBare:   r.none,
	}
}

func (r row) none() []int { return nil }

// changed are the members whose sectors become others: what stood there has to leave the parity.
func (r row) changed() []int {
	members := append(slices.Clone(r.given), r.parity)
	slices.Sort(members)
	return members
}

func (r row) others() []int { return slices.Clone(r.rest) }

// refusal is why there is no plan for these patches; OK if there is one.
func refusal(g api.Geometry, down []bool, puts []api.Patch) api.Errno {
	if e := geom.Check(g); e != api.OK {
		return e
	}
	if len(down) != g.Members || len(puts) == 0 {
		return api.ErrArg
	}
	for _, p := range puts {
		if _, _, e := geom.At(g, p.Member, p.Row); e != api.OK {
			return e
		}
	}
	for i, p := range puts {
		if _, parity, _ := geom.At(g, p.Member, p.Row); parity || i > 0 && !follows(puts[i-1], p) {
			return api.ErrArg
		}
	}
	for _, p := range puts {
		if len(p.Data) != api.Sector {
			return api.ErrLength
		}
	}
	if first := slices.Index(down, true); first >= 0 && slices.Contains(down[first+1:], true) {
		return api.ErrPlanLost
	}
	return api.OK
}

// follows says whether a patch may stand right behind another one.
func follows(first, second api.Patch) bool {
	return first.Row == second.Row && first.Member < second.Member
}
