package rows_test

import (
	"slices"

	"spindle/api"
	"spindle/bay"
	"spindle/wal"
)

// spot is a member's sector of a row.
type spot struct{ member, row int }

// plain is a Rows by the words of its chapter, on a bay and a journal of its own. It has its own layout, plans and order.
type plain struct {
	b       *bay.Bay
	w       *wal.Wal // nil if there is none
	g       api.Geometry
	lazy    bool
	from    []int // by members, the row from which on one is down; -1 if it is up
	waiting map[spot]string
	sealed  bool
}

func plainNew(b *bay.Bay, g api.Geometry, w *wal.Wal, lazy bool) *plain {
	return &plain{b: b, w: w, g: g, lazy: lazy, from: slices.Repeat([]int{-1}, g.Members), waiting: map[spot]string{}}
}

// rowsOf is how many rows a geometry has.
func rowsOf(g api.Geometry) int { return g.Chunk * g.Stripes }

// blocksOf is how many blocks it has.
func blocksOf(g api.Geometry) int { return rowsOf(g) * (g.Members - 1) }

// parityOf is the member that has a row's parity.
func parityOf(g api.Geometry, row int) int { return g.Members - 1 - row/g.Chunk%g.Members }

// spotOf is where a block stands.
func spotOf(g api.Geometry, block int) spot {
	stripe, i := block/((g.Members-1)*g.Chunk), block%((g.Members-1)*g.Chunk)
	row := stripe*g.Chunk + i%g.Chunk
	return spot{(parityOf(g, row) + 1 + i/g.Chunk) % g.Members, row}
}

// added is a, of 128 bytes, with b laid over it by exclusive or.
func added(a, b string) string {
	sum := []byte(a)
	for i := range sum {
		sum[i] ^= b[i]
	}
	return string(sum)
}

func noTrouble() api.Trouble { return api.Trouble{} }

func (p *plain) mark(member int, down bool, from int) {
	switch {
	case member < 0 || member >= p.g.Members:
	case down:
		p.from[member] = max(from, 0)
	default:
		p.from[member] = -1
	}
}

func (p *plain) down(member, row int) bool {
	return member >= 0 && member < p.g.Members && p.from[member] >= 0 && row >= p.from[member]
}

// lost says that a sector stands nowhere.
func (p *plain) lost(member, row int) bool {
	_, waits := p.waiting[spot{member, row}]
	return p.down(member, row) && !waits
}

func (p *plain) sector(member, row int) (string, api.Trouble) {
	if member < 0 || member >= p.g.Members || row < 0 || row >= rowsOf(p.g) {
		return "", api.Trouble{Err: api.ErrRange}
	}
	if s, waits := p.waiting[spot{member, row}]; waits {
		return s, noTrouble()
	}
	if !p.down(member, row) {
		s, e := p.b.Read(member, 1+row)
		if e != api.OK {
			return "", api.Trouble{Slot: member, Err: e}
		}
		return string(s), noTrouble()
	}
	for m := range p.g.Members {
		if m != member && p.lost(m, row) {
			return "", api.Trouble{Err: api.ErrPlanLost}
		}
	}
	sum := string(full(0))
	for m := range p.g.Members {
		if m == member {
			continue
		}
		s, u := p.sector(m, row)
		if u.Err != api.OK {
			return "", u
		}
		sum = added(sum, s)
	}
	return sum, noTrouble()
}

func (p *plain) read(block int) (string, api.Trouble) {
	if block < 0 || block >= blocksOf(p.g) {
		return "", api.Trouble{Err: api.ErrRange}
	}
	at := spotOf(p.g, block)
	return p.sector(at.member, at.row)
}

// given has the blocks of a batch by where they stand, the last one of each; or the error of the batch.
func (p *plain) given(puts []api.Put) (map[spot]string, api.Errno) {
	l := map[spot]string{}
	if len(puts) > 256 {
		return nil, api.ErrArg
	}
	for _, x := range puts {
		if x.Block < 0 || x.Block >= blocksOf(p.g) {
			return nil, api.ErrRange
		}
	}
	for _, x := range puts {
		if len(x.Data) != 128 {
			return nil, api.ErrLength
		}
		l[spotOf(p.g, x.Block)] = string(x.Data)
	}
	return l, api.OK
}

// rowsWith are the rows of these, rising.
func rowsWith(given map[spot]string) []int {
	l := []int{}
	for at := range given {
		l = append(l, at.row)
	}
	slices.Sort(l)
	return slices.Compact(l)
}

func (p *plain) write(puts []api.Put) api.Trouble {
	p.sealed = false
	given, e := p.given(puts)
	n := p.g.Members
	need := 2*(len(given)+len(rowsWith(given))) + 1
	switch {
	case e != api.OK:
		return api.Trouble{Err: e}
	case len(puts) == 0:
		return noTrouble()
	case p.w == nil:
		return api.Trouble{Slot: n, Err: api.ErrReadOnly}
	case need > p.w.Size():
		return api.Trouble{Err: api.ErrTooLarge}
	case need > p.w.Size()-p.w.Used():
		if u := p.empty(); u.Err != api.OK {
			return u
		}
	}
	patches := []api.Patch{}
	for _, row := range rowsWith(given) {
		l, u := p.work(row, given)
		if u.Err != api.OK {
			return u
		}
		patches = append(patches, l...)
	}
	if e := p.w.Log(patches); e != api.OK {
		return api.Trouble{Slot: n, Err: e}
	}
	if u := p.placeWaiting(); u.Err != api.OK {
		return u
	}
	if e := p.w.Seal(); e != api.OK {
		return api.Trouble{Slot: n, Err: e}
	}
	p.sealed = true
	for _, x := range patches {
		p.waiting[spot{x.Member, x.Row}] = string(x.Data)
	}
	if p.lazy {
		return noTrouble()
	}
	return p.settle()
}

// work are the patches of one row: what is given, and the sum of that and of what has to be read.
func (p *plain) work(row int, given map[spot]string) ([]api.Patch, api.Trouble) {
	reads, ok := p.reads(row, given)
	if !ok {
		return nil, api.Trouble{Err: api.ErrPlanLost}
	}
	sum := string(full(0))
	for _, m := range reads {
		s, u := p.sector(m, row)
		if u.Err != api.OK {
			return nil, u
		}
		sum = added(sum, s)
	}
	for at, s := range given {
		if at.row == row {
			sum = added(sum, s)
		}
	}
	given[spot{parityOf(p.g, row), row}] = sum
	l := []api.Patch{}
	for m := range p.g.Members {
		if s, ok := given[spot{m, row}]; ok && !p.down(m, row) {
			l = append(l, api.Patch{Member: m, Row: row, Data: []byte(s)})
		}
	}
	return l, noTrouble()
}

// reads are the members that are read for a row; not ok if too many are down.
func (p *plain) reads(row int, given map[spot]string) ([]int, bool) {
	var changed, rest []int
	downs, gone, parity := 0, -1, parityOf(p.g, row)
	for m := range p.g.Members {
		_, ok := given[spot{m, row}]
		if p.down(m, row) {
			downs, gone = downs+1, m
		}
		if ok || m == parity {
			changed = append(changed, m)
		} else {
			rest = append(rest, m)
		}
	}
	blocks := len(changed) - 1
	_, goneGiven := given[spot{gone, row}]
	switch {
	case downs > 1:
		return nil, false
	case len(rest) == 0 || gone == parity && downs == 1:
		return nil, true
	case goneGiven, downs == 0 && len(rest) < blocks+1:
		return rest, true
	}
	return changed, true
}

func (p *plain) place(patches []api.Patch) api.Trouble {
	l := map[spot]string{}
	for _, x := range patches {
		if x.Member < 0 || x.Member >= p.g.Members || x.Row < 0 || x.Row >= rowsOf(p.g) {
			return api.Trouble{Err: api.ErrRange}
		}
	}
	for _, x := range patches {
		if len(x.Data) != 128 {
			return api.Trouble{Err: api.ErrLength}
		}
		l[spot{x.Member, x.Row}] = string(x.Data)
	}
	return p.lay(l)
}

// lay writes sectors by rising rows, and in each by rising members.
func (p *plain) lay(l map[spot]string) api.Trouble {
	for _, row := range rowsWith(l) {
		for m := range p.g.Members {
			s, ok := l[spot{m, row}]
			if !ok || p.down(m, row) {
				continue
			}
			if e := p.b.Write(m, 1+row, []byte(s)); e != api.OK {
				return api.Trouble{Slot: m, Err: e}
			}
		}
	}
	return noTrouble()
}

func (p *plain) placeWaiting() api.Trouble {
	u := p.lay(p.waiting)
	if u.Err == api.OK {
		p.waiting = map[spot]string{}
	}
	return u
}

func (p *plain) settle() api.Trouble {
	if p.w == nil {
		return noTrouble()
	}
	if e := p.w.Sync(); e != api.OK {
		return api.Trouble{Slot: p.g.Members, Err: e}
	}
	return p.finish()
}

func (p *plain) finish() api.Trouble {
	if p.w == nil || !p.w.Sure() {
		return noTrouble()
	}
	return p.placeWaiting()
}

func (p *plain) back() {
	if p.w != nil && !p.w.Sure() && len(p.waiting) > 0 {
		p.waiting, p.sealed = map[spot]string{}, false
	}
}

func (p *plain) barrier() api.Trouble {
	for m := range p.g.Members {
		if p.down(m, 0) {
			continue
		}
		if e := p.b.Flush(m); e != api.OK {
			return api.Trouble{Slot: m, Err: e}
		}
	}
	return noTrouble()
}

func (p *plain) empty() api.Trouble {
	if u := p.settle(); u.Err != api.OK {
		return u
	}
	if u := p.barrier(); u.Err != api.OK || p.w == nil {
		return u
	}
	if e := p.w.Reclaim(); e != api.OK {
		return api.Trouble{Slot: p.g.Members, Err: e}
	}
	return noTrouble()
}
