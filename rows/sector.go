package rows

import (
	"bytes"

	"spindle/api"
	"spindle/geom"
	"spindle/plan"
)

// Sector is a member's sector of a row, worked out if the member is down there.
func (r *Rows) Sector(member, row int) ([]byte, api.Trouble) {
	if _, _, e := geom.At(r.geometry, member, row); e != api.OK {
		return nil, refused(e)
	}
	if r.hidden(member, row) {
		return r.solved(member, row)
	}
	return r.held(member, row)
}

// Read is a block.
func (r *Rows) Read(block int) ([]byte, api.Trouble) {
	at, e := geom.Of(r.geometry, block)
	if e != api.OK {
		return nil, refused(e)
	}
	return r.Sector(at.Member, at.Row)
}

// hidden says whether a sector can only be worked out: its member is down, and nothing waits for it.
func (r *Rows) hidden(member, row int) bool {
	return r.Down(member, row) && r.waits(member, row) == nil
}

// held is a sector that isn't hidden: what waits for it comes later than what its disk has.
func (r *Rows) held(member, row int) ([]byte, api.Trouble) {
	if data := r.waits(member, row); data != nil {
		return bytes.Clone(data), api.Trouble{}
	}
	return r.read(member, row)
}

// solved is a hidden sector, out of all others of its row.
func (r *Rows) solved(member, row int) ([]byte, api.Trouble) {
	var others []int
	for m := range r.members {
		if m == member {
			continue
		}
		if r.hidden(m, row) {
			return nil, refused(api.ErrPlanLost)
		}
		others = append(others, m)
	}
	read, u := r.gathered(others, row)
	if u.Err != api.OK {
		return nil, u
	}
	sector, _ := plan.Solve(r.geometry, row, member, read)
	return sector, api.Trouble{}
}

// gathered has the sectors of some members in a row, none of them hidden, by their members.
func (r *Rows) gathered(members []int, row int) ([][]byte, api.Trouble) {
	read := make([][]byte, len(r.members))
	for _, m := range members {
		sector, u := r.held(m, row)
		if u.Err != api.OK {
			return nil, u
		}
		read[m] = sector
	}
	return read, api.Trouble{}
}
