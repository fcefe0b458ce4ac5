package rows

import (
	"spindle/api"
	"spindle/plan"
	"spindle/wal"
)

// batch is one that is being written to its rows.
type batch struct {
	*Rows
	puts    []api.Put
	split   [][]api.Patch // its blocks, row by row
	cost    int           // the places of the journal that it takes at most
	patches []api.Patch   // that write it
}

// Write writes a batch.
func (r *Rows) Write(puts []api.Put) api.Trouble {
	r.sealed = false
	if len(puts) == 0 {
		return api.Trouble{}
	}
	b := &batch{Rows: r, puts: puts}
	return inTurn(b.steps()...)
}

// steps are those of writing it, in their order.
func (b *batch) steps() []func() api.Trouble {
	return []func() api.Trouble{b.admit, b.makeRoom, b.work, b.log, b.placeWaiting, b.seal, b.end}
}

// admit refuses what can't be written, whatever the journal contains.
func (b *batch) admit() api.Trouble {
	split, e := plan.Split(b.geometry, b.puts)
	if e != api.OK {
		return refused(e)
	}
	if b.journal == nil {
		return from(b.geometry.Members, api.ErrReadOnly)
	}
	most, _ := plan.Most(b.geometry, b.puts)
	b.split, b.cost = split, 2*most+1
	if b.cost > b.journal.Size() {
		return refused(api.ErrTooLarge)
	}
	return api.Trouble{}
}

// makeRoom empties the journal, if the batch may not fit behind those that it has.
func (b *batch) makeRoom() api.Trouble {
	if b.cost > b.journal.Size()-b.journal.Used() {
		return b.Empty()
	}
	return api.Trouble{}
}

// work makes the patches of all rows.
func (b *batch) work() api.Trouble {
	for _, puts := range b.split {
		down := b.downAt(puts[0].Row)
		p, e := plan.Of(b.geometry, down, puts)
		if e != api.OK {
			return refused(e)
		}
		read, u := b.gathered(p.Reads, p.Row)
		if u.Err != api.OK {
			return u
		}
		patches, _ := plan.Work(b.geometry, down, p, read)
		b.patches = append(b.patches, patches...)
	}
	return api.Trouble{}
}

func (b *batch) log() api.Trouble {
	return b.ask(func(w *wal.Wal) api.Errno { return w.Log(b.patches) })
}

// seal lets the batch count. What waited ahead of it is in its place by now.
func (b *batch) seal() api.Trouble {
	u := b.ask((*wal.Wal).Seal)
	if u.Err == api.OK {
		b.sealed, b.waiting = true, b.patches
	}
	return u
}

// end lays the batch in its place, unless that may wait.
func (b *batch) end() api.Trouble {
	if b.lazy {
		return api.Trouble{}
	}
	return b.Settle()
}
