package wal_test

import (
	"slices"

	"spindle/api"
	"spindle/record"
	"spindle/scan"
)

// plainDisk is a disk with its cache and its wear (-1 if it is not worn); a sector is a text of 128 bytes.
type plainDisk struct {
	durable []string
	ats     []int
	cached  []string
	failed  bool
	worn    int
}

func plainNew(sectors int) *plainDisk {
	return &plainDisk{durable: slices.Repeat([]string{string(full(0))}, sectors), worn: -1}
}

func (d *plainDisk) fail() { d.failed, d.ats, d.cached = true, nil, nil }

func (d *plainDisk) settle(kept func(i int) bool) {
	for i, at := range d.ats {
		if kept(i) {
			d.durable[at] = d.cached[i]
		}
	}
	d.ats, d.cached = nil, nil
}

func (d *plainDisk) read(at int) string {
	for i, other := range slices.Backward(d.ats) {
		if other == at {
			return d.cached[i]
		}
	}
	return d.durable[at]
}

// plainBay is a bay without disks aside: a nil disk is none; the trip is -1 if there is none.
type plainBay struct {
	disks  []*plainDisk
	dark   bool
	trip   int
	counts api.Counts
}

// operation is one thing that is done with a disk.
type operation struct {
	kind byte // r, w or f
	at   int
	data string
}

func (p *plainBay) perform(slot int, o operation) (string, api.Errno) {
	if slot < 0 || slot >= len(p.disks) {
		return "", api.ErrArg
	}
	if p.dark || p.trip == 0 {
		p.dark, p.trip = true, -1
		return "", api.ErrBayDark
	}
	if p.trip > 0 {
		p.trip--
	}
	switch o.kind {
	case 'r':
		p.counts.Reads++
	case 'w':
		p.counts.Writes++
	default:
		p.counts.Flushes++
	}
	d := p.disks[slot]
	if d == nil {
		return "", api.ErrBayEmpty
	}
	if d.worn == 0 {
		d.fail()
	}
	d.worn = max(-1, d.worn-1)
	return d.perform(o)
}

func (d *plainDisk) perform(o operation) (string, api.Errno) {
	if d.failed {
		return "", api.ErrFailed
	}
	if o.kind == 'f' {
		d.settle(func(int) bool { return true })
		return "", api.OK
	}
	if o.at < 0 || o.at >= len(d.durable) {
		return "", api.ErrRange
	}
	if o.kind == 'r' {
		return d.read(o.at), api.OK
	}
	d.ats, d.cached = append(d.ats, o.at), append(d.cached, o.data)
	return "", api.OK
}

func (p *plainBay) cut(slot int, keep []bool) {
	for s, d := range p.disks {
		if d != nil {
			d.settle(func(i int) bool { return s == slot && i < len(keep) && keep[i] })
		}
	}
	p.dark, p.trip = false, -1
}

// plainWal is a journal by the words of its chapter: each call tells which operations it consists of, and what they change.
type plainWal struct {
	p      *plainBay
	slot   int
	size   int
	epoch  uint64
	next   uint64
	tail   int
	used   int
	sure   bool
	logged [][]byte
	broken api.Errno
}

// operate performs operations until one fails, and then what changes behind them.
func (v *plainWal) operate(change func(), l ...operation) api.Errno {
	for _, o := range l {
		if _, v.broken = v.p.perform(v.slot, o); v.broken != api.OK {
			return v.broken
		}
	}
	change()
	return api.OK
}

// at is the sector of the place that is i places behind the head.
func (v *plainWal) at(i int) int { return 2 + (v.tail+v.used+i)%v.size }

func (v *plainWal) log(patches []api.Patch) api.Errno {
	if v.broken != api.OK {
		return v.broken
	}
	sectors, e := scan.Sectors(v.epoch, api.Txn{Seq: v.next, Patches: patches})
	switch {
	case e != api.OK:
		return e
	case len(sectors) > v.size:
		return api.ErrTooLarge
	case len(sectors) > v.size-v.used:
		return api.ErrWalFull
	}
	l := []operation{}
	for i, b := range sectors[:len(sectors)-1] {
		l = append(l, operation{'w', v.at(i), string(b)})
	}
	l = append(l, operation{kind: 'f'})
	return v.operate(func() { v.sure, v.logged = true, sectors }, l...)
}

func (v *plainWal) seal() api.Errno {
	if v.broken != api.OK {
		return v.broken
	}
	if len(v.logged) == 0 {
		return api.ErrArg
	}
	last := len(v.logged) - 1
	return v.operate(func() {
		v.used += len(v.logged)
		v.next++
		v.sure, v.logged = false, nil
	}, operation{'w', v.at(last), string(v.logged[last])})
}

func (v *plainWal) sync() api.Errno {
	if v.sure || v.broken != api.OK {
		if v.sure {
			return api.OK
		}
		return v.broken
	}
	return v.operate(func() { v.sure = true }, operation{kind: 'f'})
}

func (v *plainWal) reclaim(epoch uint64) api.Errno {
	if v.broken != api.OK {
		return v.broken
	}
	if !v.sure {
		return api.ErrArg
	}
	if v.next > greatest || epoch > greatest {
		return api.ErrRecordForm
	}
	return v.operate(func() {
		v.tail, v.used = (v.tail+v.used)%v.size, 0
		v.epoch, v.logged = epoch, nil
	}, operation{'w', 1, string(checkpoint(epoch, v.next, (v.tail+v.used)%v.size))}, operation{kind: 'f'})
}

// plainFormat is a formatted journal, or the error.
func plainFormat(p *plainBay, slot, size int, epoch uint64) (*plainWal, api.Errno) {
	if size < 5 || size > 2048 || epoch > greatest {
		return nil, api.ErrArg
	}
	v := &plainWal{p: p, slot: slot, size: size, epoch: epoch, next: 1, sure: true}
	l := []operation{}
	for place := range size {
		l = append(l, operation{'w', 2 + place, string(full(0))})
	}
	l = append(l, operation{'w', 1, string(checkpoint(epoch, 1, 0))}, operation{kind: 'f'})
	if e := v.operate(func() {}, l...); e != api.OK {
		return nil, e
	}
	return v, api.OK
}

// plainOpen is an opened journal with its batches, or the error.
func plainOpen(p *plainBay, slot, size int) (*plainWal, []api.Txn, api.Errno) {
	if size < 5 || size > 2048 {
		return nil, nil, api.ErrArg
	}
	first, e := p.perform(slot, operation{kind: 'r', at: 1})
	if e != api.OK {
		return nil, nil, e
	}
	c, e := record.DecodeCheck([]byte(first))
	if e != api.OK || c.Tail >= size {
		return nil, nil, api.ErrWalForm
	}
	places := ""
	for place := range size {
		b, e := p.perform(slot, operation{kind: 'r', at: 2 + place})
		if e != api.OK {
			return nil, nil, e
		}
		places += b
	}
	f, _ := scan.Of([]byte(places), c)
	v := &plainWal{p: p, slot: slot, size: size, epoch: c.Epoch, next: f.Next, tail: c.Tail, used: f.Used, sure: true}
	return v, f.Txns, api.OK
}
