package rows

import (
	"spindle/api"
	"spindle/bay"
	"spindle/geom"
	"spindle/lift"
	"spindle/wal"
)

// Settle makes the last batch sure, and lays what waits in its place.
func (r *Rows) Settle() api.Trouble { return inTurn(r.sync, r.Finish) }

// Finish lays what waits in its place, if its batch is sure.
func (r *Rows) Finish() api.Trouble {
	if r.unsure() {
		return api.Trouble{}
	}
	return r.placeWaiting()
}

// Back takes back the batch that was sealed last, if it is not in its place.
func (r *Rows) Back() {
	if r.Pending() > 0 && r.unsure() {
		r.waiting, r.sealed = nil, false
	}
}

// Place lays patches in their place.
func (r *Rows) Place(patches []api.Patch) api.Trouble {
	if e := r.check(patches); e != api.OK {
		return refused(e)
	}
	way, _ := lift.New(0)
	for _, p := range patches {
		way.Put(p)
	}
	for _, p := range way.All() {
		if r.Down(p.Member, p.Row) {
			continue
		}
		if u := r.write(p); u.Err != api.OK {
			return u
		}
	}
	return api.Trouble{}
}

// Barrier flushes all members that are not down.
func (r *Rows) Barrier() api.Trouble { return r.each((*bay.Bay).Flush) }

// Empty makes all sure and placed, and the journal empty.
func (r *Rows) Empty() api.Trouble { return inTurn(r.Settle, r.Barrier, r.reclaim) }

func (r *Rows) sync() api.Trouble { return r.ask((*wal.Wal).Sync) }

func (r *Rows) reclaim() api.Trouble { return r.ask((*wal.Wal).Reclaim) }

// unsure says whether a crash may yet lose the batch that was sealed last.
func (r *Rows) unsure() bool { return r.journal != nil && !r.journal.Sure() }

// placeWaiting places what waits, for whatever reason it may be placed. Where that fails, all of it waits on.
func (r *Rows) placeWaiting() api.Trouble {
	u := r.Place(r.waiting)
	if u.Err == api.OK {
		r.waiting = nil
	}
	return u
}

// check says why patches can't be placed.
func (r *Rows) check(patches []api.Patch) api.Errno {
	for _, p := range patches {
		if _, _, e := geom.At(r.geometry, p.Member, p.Row); e != api.OK {
			return e
		}
	}
	for _, p := range patches {
		if len(p.Data) != api.Sector {
			return api.ErrLength
		}
	}
	return api.OK
}
