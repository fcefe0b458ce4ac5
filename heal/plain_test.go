package heal_test

import (
	"slices"

	"spindle/api"
	"spindle/bay"
)

// spot is a member's sector of a row.
type spot struct{ member, row int }

// plain is a Step by the words of its chapter and of that of rows, on a bay of its own. It has its own layout, marks and waiting patches, and no Rows.
type plain struct {
	b       *bay.Bay
	g       api.Geometry
	from    []int           // by members, the row from which on one is down; -1 if it is up
	waiting map[spot]string // the sectors that wait for their place
}

// rowsOf is how many rows a geometry has.
func rowsOf(g api.Geometry) int { return g.Chunk * g.Stripes }

// blocksOf is how many blocks it has.
func blocksOf(g api.Geometry) int { return rowsOf(g) * (g.Members - 1) }

// parityOf is the member that has a row's parity.
func parityOf(g api.Geometry, row int) int { return g.Members - 1 - row/g.Chunk%g.Members }

// spotOf is where a block stands.
func spotOf(g api.Geometry, block int) spot {
	stripe, i := block/((g.Members-1)*g.Chunk), block%((g.Members-1)*g.Chunk)
	row := stripe*g.Chunk + i%g.Chunk
	return spot{(parityOf(g, row) + 1 + i/g.Chunk) % g.Members, row}
}

// added is a, of 128 bytes, with b laid over it by exclusive or.
func added(a, b string) string {
	sum := []byte(a)
	for i := range sum {
		sum[i] ^= b[i]
	}
	return string(sum)
}

func noTrouble() api.Trouble { return api.Trouble{} }

// without says that a trouble comes from no slot.
func without(e api.Errno) api.Trouble { return api.Trouble{Err: e} }

func of(slot int, e api.Errno) api.Trouble { return api.Trouble{Slot: slot, Err: e} }

func (p *plain) mark(member int, down bool, from int) {
	p.from[member] = -1
	if down {
		p.from[member] = from
	}
}

func (p *plain) down(member, row int) bool {
	return member >= 0 && member < p.g.Members && p.from[member] >= 0 && row >= p.from[member]
}

// sector is what a member that is down is to have in a row.
func (p *plain) sector(member, row int) (string, api.Trouble) {
	if s, waits := p.waiting[spot{member, row}]; waits {
		return s, noTrouble()
	}
	for m := range p.g.Members {
		if _, waits := p.waiting[spot{m, row}]; m != member && p.down(m, row) && !waits {
			return "", without(api.ErrPlanLost)
		}
	}
	sum := string(full(0))
	for m := range p.g.Members {
		if m == member {
			continue
		}
		s, waits := p.waiting[spot{m, row}]
		if !waits {
			data, e := p.b.Read(m, 1+row)
			if e != api.OK {
				return "", of(m, e)
			}
			s = string(data)
		}
		sum = added(sum, s)
	}
	return sum, noTrouble()
}

func (p *plain) step(g api.Geometry, member, stripe int) api.Trouble {
	within := func(n, least, most int) bool { return least <= n && n <= most }
	if !within(g.Members, 3, 16) || !within(g.Chunk, 1, 16) || !within(g.Stripes, 1, 256) {
		return without(api.ErrGeomForm)
	}
	if p.b.Slots() != g.Members+1 {
		return without(api.ErrArg)
	}
	if !within(member, 0, g.Members-1) || !within(stripe, 0, g.Stripes-1) {
		return without(api.ErrRange)
	}
	l := []int{}
	for row := range rowsOf(g) {
		if row/g.Chunk == stripe {
			l = append(l, row)
		}
	}
	if slices.ContainsFunc(l, func(row int) bool { return !p.down(member, row) }) {
		return without(api.ErrHealIdle)
	}
	for _, row := range l {
		s, u := p.sector(member, row)
		if u.Err != api.OK {
			return u
		}
		if e := p.b.Write(member, 1+row, []byte(s)); e != api.OK {
			return of(member, e)
		}
	}
	if e := p.b.Flush(member); e != api.OK {
		return of(member, e)
	}
	return noTrouble()
}
