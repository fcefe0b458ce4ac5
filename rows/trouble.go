package rows

import (
	"spindle/api"
	"spindle/bay"
	"spindle/wal"
)

// refused is the trouble of a call that comes from no slot.
func refused(e api.Errno) api.Trouble { return api.Trouble{Err: e} }

// from is the trouble of what was asked of a slot's disk.
func from(slot int, e api.Errno) api.Trouble {
	if e == api.OK {
		return api.Trouble{}
	}
	return api.Trouble{Slot: slot, Err: e}
}

// inTurn takes steps until one of them has a trouble.
func inTurn(steps ...func() api.Trouble) api.Trouble {
	for _, step := range steps {
		if u := step(); u.Err != api.OK {
			return u
		}
	}
	return api.Trouble{}
}

// ask calls the journal; without one nothing is done.
func (r *Rows) ask(call func(w *wal.Wal) api.Errno) api.Trouble {
	if r.journal == nil {
		return api.Trouble{}
	}
	return from(r.geometry.Members, call(r.journal))
}

// read is a member's sector of a row, as its disk has it.
func (r *Rows) read(member, row int) ([]byte, api.Trouble) {
	operation := (*bay.Bay).Read
	sector, e := operation(r.bay, member, api.Base+row)
	return sector, from(member, e)
}

// write lays a patch on its member's disk.
func (r *Rows) write(p api.Patch) api.Trouble {
	operation := (*bay.Bay).Write
	return from(p.Member, operation(r.bay, p.Member, api.Base+p.Row, p.Data))
}

// each performs an operation on all members that are not down at row 0.
func (r *Rows) each(operation func(b *bay.Bay, slot int) api.Errno) api.Trouble {
	for m := range r.members {
		if r.Down(m, 0) {
			continue
		}
		if u := from(m, operation(r.bay, m)); u.Err != api.OK {
			return u
		}
	}
	return api.Trouble{}
}
