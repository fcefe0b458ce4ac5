package bay_test

import (
	"bytes"
	"slices"
	"testing"

	"spindle/api"
	"spindle/bay"
)

// plainDisk is the document's disk, of letters, with its wear; -1 if it is not worn.
type plainDisk struct {
	durable []byte
	ats     []int
	cached  []byte
	failed  bool
	worn    int
}

func plainNew(letters []byte) *plainDisk {
	return &plainDisk{durable: slices.Clone(letters), worn: -1}
}

func (p *plainDisk) fail() { p.failed, p.ats, p.cached = true, nil, nil }

func (p *plainDisk) crash(keep []bool) {
	for i, at := range p.ats {
		if i < len(keep) && keep[i] {
			p.durable[at] = p.cached[i]
		}
	}
	p.ats, p.cached = nil, nil
}

func (p *plainDisk) read(at int) byte {
	for i := len(p.ats) - 1; i >= 0; i-- {
		if p.ats[i] == at {
			return p.cached[i]
		}
	}
	return p.durable[at]
}

// plainBay is the document's bay: of each slot the disk in it, aside and coming; a trip, -1 if there is none.
type plainBay struct {
	in, aside, coming []*plainDisk
	dark              bool
	trip              int
	counts            [3]int
}

func (p *plainBay) running(slot int) bool { return p.in[slot] != nil && !p.in[slot].failed }

func (p *plainBay) taken(slot int) bool { return p.running(slot) || p.coming[slot] != nil }

// operation is the five steps, up to the disk's own refusals: of a read, a write (of one letter) or a flush.
func (p *plainBay) operation(kind, slot, at int, letter byte) (byte, api.Errno) {
	if slot < 0 || slot >= len(p.in) {
		return 0, api.ErrArg
	}
	if p.dark {
		return 0, api.ErrBayDark
	}
	if p.trip == 0 {
		p.dark, p.trip = true, -1
		return 0, api.ErrBayDark
	}
	if p.trip > 0 {
		p.trip--
	}
	p.counts[kind]++
	d := p.in[slot]
	if d == nil {
		return 0, api.ErrBayEmpty
	}
	if d.worn == 0 {
		d.fail()
		d.worn = -1
	} else if d.worn > 0 {
		d.worn--
	}
	return d.operation(kind, at, letter)
}

func (d *plainDisk) operation(kind, at int, letter byte) (byte, api.Errno) {
	if d.failed {
		return 0, api.ErrFailed
	}
	if kind != 2 && (at < 0 || at >= len(d.durable)) {
		return 0, api.ErrRange
	}
	switch kind {
	case 0:
		return d.read(at), api.OK
	case 1:
		d.ats, d.cached = append(d.ats, at), append(d.cached, letter)
	default:
		for i, at := range d.ats {
			d.durable[at] = d.cached[i]
		}
		d.ats, d.cached = nil, nil
	}
	return 0, api.OK
}

// change is what is done with a slot without an operation.
func (p *plainBay) change(kind, slot, n int, image []byte) api.Errno {
	if slot < 0 || slot >= len(p.in) || n < 0 {
		return api.ErrArg
	}
	d := p.in[slot]
	switch kind {
	case 0, 1, 2: // Fail, Wear, Pull
		if d == nil {
			return api.ErrBayEmpty
		}
		switch kind {
		case 0:
			d.fail()
		case 1:
			d.worn = n
		default:
			d.crash(nil)
			p.aside[slot], p.in[slot] = d, nil
		}
	case 3: // Push
		if p.aside[slot] == nil {
			return api.ErrBayEmpty
		}
		if p.taken(slot) {
			return api.ErrBayTaken
		}
		p.coming[slot], p.aside[slot] = p.aside[slot], nil
	default: // Swap, Load
		if p.taken(slot) {
			return api.ErrBayTaken
		}
		if len(image) == 0 {
			return api.ErrDiskSize
		}
		p.in[slot] = plainNew(image)
	}
	return api.OK
}

func (p *plainBay) setTrip(n int) api.Errno {
	if n < 0 {
		return api.ErrArg
	}
	if p.dark {
		return api.ErrBayDark
	}
	p.trip = n
	return api.OK
}

func (p *plainBay) cut(keeps [][]bool) {
	for slot, d := range p.in {
		if d != nil {
			keep := []bool{}
			if slot < len(keeps) {
				keep = keeps[slot]
			}
			d.crash(keep)
		}
		if p.coming[slot] != nil {
			p.in[slot], p.coming[slot] = p.coming[slot], nil
		}
	}
	p.dark, p.trip = false, -1
}

// both do the same to a bay and to a plain one.
type both struct {
	t      *testing.T
	b      *bay.Bay
	p      *plainBay
	source draw
}

func (x *both) slot() int { return x.source.below(len(x.p.in)+2) - 1 }

// step does one thing at random; what need not be often is so.
func (x *both) step() {
	t, b, p, slot := x.t, x.b, x.p, x.slot()
	n := x.source.below(9) - 1
	switch x.source.below(26) {
	case 0:
		wantE(t, "Fail", b.Fail(slot), p.change(0, slot, 0, nil))
	case 1:
		wantE(t, "Wear", b.Wear(slot, n), p.change(1, slot, n, nil))
	case 2, 3:
		wantE(t, "Pull", b.Pull(slot), p.change(2, slot, 0, nil))
	case 4, 5, 6:
		wantE(t, "Push", b.Push(slot), p.change(3, slot, 0, nil))
	case 7, 8:
		wantE(t, "Swap", b.Swap(slot, n), p.change(4, slot, n, make([]byte, max(n, 0))))
	case 9, 10:
		image := x.source.bytes(max(n, 0))
		wantE(t, "Load", b.Load(slot, sectors(image)), p.change(4, slot, 0, image))
	case 11:
		wantE(t, "Trip", b.Trip(n), p.setTrip(n))
	case 12, 13:
		keeps := make([][]bool, x.source.below(len(p.in)+2))
		for i := range keeps {
			keeps[i] = x.source.bools(x.source.below(6))
		}
		b.Cut(keeps...)
		p.cut(keeps)
	case 14, 15, 16, 17:
		data, e := b.Read(slot, n)
		letter, f := p.operation(0, slot, n, 0)
		if e != f || e == api.OK && !bytes.Equal(data, full(letter)) || e != api.OK && len(data) > 0 {
			t.Errorf("Read(%d, %d): %q, %v; want %d, %v", slot, n, brief(data), e, letter, f)
		}
	case 18, 19:
		_, f := p.operation(2, slot, 0, 0)
		wantE(t, "Flush", b.Flush(slot), f)
	default:
		letter := byte(x.source.below(256))
		_, f := p.operation(1, slot, n, letter)
		wantE(t, "Write", b.Write(slot, n, full(letter)), f)
	}
}

// sectors has a sector of each letter.
func sectors(image []byte) []byte {
	b := []byte{}
	for _, c := range image {
		b = append(b, full(c)...)
	}
	return b
}

// compare asks both everything that is no operation.
func (x *both) compare() {
	t, b, p := x.t, x.b, x.p
	t.Helper()
	wantCounts(t, "counts", b, p.counts[0], p.counts[1], p.counts[2])
	if b.Dark() != p.dark || b.Slots() != len(p.in) {
		t.Errorf("dark %v, %d slots", b.Dark(), b.Slots())
	}
	for slot, d := range p.in {
		size, pending, durable, want := 0, []int{}, []byte{}, api.ErrBayEmpty
		if d != nil {
			size, pending, want = len(d.durable), d.ats, api.OK
		}
		if p.running(slot) {
			durable = d.durable
		}
		if b.Has(slot) != p.running(slot) || b.Sectors(slot) != size || !slices.Equal(b.Pending(slot), pending) {
			t.Errorf("slot %d: has %v, %d sectors, pending %v; want %v, %d, %v", slot, b.Has(slot), b.Sectors(slot), b.Pending(slot), p.running(slot), size, pending)
		}
		if image, e := b.Image(slot); e != want || !bytes.Equal(image, sectors(durable)) {
			t.Errorf("slot %d: image %q, %v; want %q, %v", slot, brief(image), e, durable, want)
		}
	}
}

func TestLikeThePlainOne(t *testing.T) {
	for seed := range 300 {
		x := &both{t: t, p: &plainBay{trip: -1}, source: draw(1000 + seed)}
		sizes := []int{}
		for range 1 + seed%4 {
			size := x.source.below(5)
			sizes = append(sizes, size)
			var d *plainDisk
			if size > 0 {
				d = plainNew(make([]byte, size))
			}
			x.p.in = append(x.p.in, d)
		}
		x.p.aside, x.p.coming = make([]*plainDisk, len(sizes)), make([]*plainDisk, len(sizes))
		x.b = fresh(t, sizes...)
		for i := range 200 {
			x.step()
			x.compare()
			if t.Failed() {
				t.Fatalf("seed %d, step %d", seed, i)
			}
		}
	}
}
