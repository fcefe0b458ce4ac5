package rows_test

import (
	"bytes"
	"math/rand"
	"strconv"
	"testing"

	"spindle/api"
	"spindle/rows"
	"spindle/wal"
)

// anything is a call at random; it may be refused.
func (x *pair) anything(d *rand.Rand) string {
	block := func() string { return "." + strconv.Itoa(d.Intn(blocksOf(x.g)+1)-d.Intn(2)) }
	member, row := strconv.Itoa(d.Intn(x.g.Members)), strconv.Itoa(d.Intn(rowsOf(x.g)+2)-1)
	switch d.Intn(16) {
	case 0, 1, 2:
		return "write" + block()
	case 3, 4:
		return "write" + block() + block()
	case 5:
		return "write" + block() + block() + block() + block() + block()
	case 6:
		return "write"
	case 7:
		return "sector." + member + "." + row
	case 8:
		return "read" + block()
	case 9:
		return "settle"
	case 10:
		return []string{"finish", "sync", "back"}[d.Intn(3)]
	case 11:
		return []string{"barrier", "empty"}[d.Intn(2)]
	case 12:
		return "down." + member + "." + row
	case 13:
		return "place." + member + "." + row + "." + strconv.Itoa(d.Intn(x.g.Members)) + "." + strconv.Itoa(d.Intn(rowsOf(x.g)))
	}
	return "up." + member
}

// harm does something to the bay, at random.
func (x *pair) harm(d *rand.Rand) {
	x.t.Helper()
	slot := d.Intn(x.g.Members + 1)
	switch d.Intn(8) {
	case 0:
		x.fail(slot)
	case 1:
		x.pull(slot)
	case 2:
		x.wear(slot, d.Intn(9))
	case 3, 4:
		if !x.b.Dark() {
			x.trip(d.Intn(25))
		}
	case 5:
		keeps := [][]bool{}
		for slot := range x.b.Slots() {
			keep := make([]bool, len(x.b.Pending(slot)))
			for i := range keep {
				keep[i] = d.Intn(2) == 0
			}
			keeps = append(keeps, keep)
		}
		x.cut(keeps...)
	case 6:
		x.b.Swap(slot, rowsOf(x.g)+1)
		x.p.b.Swap(slot, rowsOf(x.g)+1)
	}
}

// renew takes a new journal and a new Rows, if the disks let it.
func (x *pair) renew(lazy bool) {
	x.t.Helper()
	x.cut()
	if !x.b.Has(x.g.Members) {
		x.b.Swap(x.g.Members, x.ring+3)
		x.p.b.Swap(x.g.Members, x.ring+3)
	}
	w, _ := wal.Format(x.b, x.g.Members, x.ring, 1)
	v, _ := wal.Format(x.p.b, x.g.Members, x.ring, 1)
	if w == nil || v == nil {
		return // the disk is worn
	}
	x.w = w
	x.r, _ = rows.New(x.b, x.g, x.w, lazy)
	x.p = plainNew(x.p.b, x.g, v, lazy)
	x.compare("New")
}

// Whatever is asked for, and whatever happens to the disks: it is as the words of the chapter have it.
func TestAnything(t *testing.T) {
	for seed := range 300 {
		d := rand.New(rand.NewSource(int64(seed)))
		l := shapes()
		x := made(t, l[d.Intn(len(l))], 5+d.Intn(30), d.Intn(2) == 0)
		for range 60 {
			x.attempt(x.anything(d))
			if d.Intn(12) == 0 {
				x.harm(d)
			}
			if d.Intn(25) == 0 {
				x.renew(d.Intn(2) == 0)
			}
		}
	}
}

// The same without harm, but with all marks: nothing is refused that isn't lost.
func TestAnythingWithoutHarm(t *testing.T) {
	for seed := range 200 {
		d := rand.New(rand.NewSource(int64(-1 - seed)))
		l := shapes()
		ring := []int{0, 9, 20, 40}[d.Intn(4)]
		x := made(t, l[d.Intn(len(l))], ring, d.Intn(2) == 0)
		for range 60 {
			call := x.anything(d)
			if ring == 0 && call == "sync" {
				continue
			}
			switch u := x.attempt(call); u.Err {
			case api.OK, api.ErrPlanLost, api.ErrRange, api.ErrTooLarge:
				if u.Slot != 0 {
					t.Fatalf("%s: %v", call, u)
				}
			case api.ErrReadOnly:
				if u.Slot != x.g.Members || ring != 0 {
					t.Fatalf("%s: %v", call, u)
				}
			default:
				t.Fatalf("%s: %v", call, u)
			}
		}
	}
}

// The greatest geometry: the last member, the last row, the last block.
func TestGreatest(t *testing.T) {
	for _, lazy := range []bool{false, true} {
		g := shape(16, 16, 256)
		b, w := laid(t, g, 2048)
		r, e := rows.New(b, g, w, lazy)
		if e != api.OK {
			t.Fatalf("New: %v", e)
		}
		l := []api.Put{{Block: 61439, Data: random(1)}, {Block: 0, Data: random(2)}, {Block: 61424, Data: random(3)}}
		if u := r.Write(l); u != noTrouble() {
			t.Fatalf("Write: %v", u)
		}
		r.Mark(spotOf(g, 61439).member, true, 4095)
		for range 2 {
			for _, p := range l {
				if data, u := r.Read(p.Block); u != noTrouble() || !bytes.Equal(data, p.Data) {
					t.Errorf("block %d: %x, %v", p.Block, data, u)
				}
			}
			r.Settle()
		}
		for _, c := range []struct{ member, row int }{{15, 4096}, {16, 4095}, {0, 4096}, {-1, 0}, {0, -1}} {
			if _, u := r.Sector(c.member, c.row); u != (api.Trouble{Err: api.ErrRange}) {
				t.Errorf("Sector(%d, %d): %v", c.member, c.row, u)
			}
		}
		if _, u := r.Read(61440); u != (api.Trouble{Err: api.ErrRange}) {
			t.Errorf("Read: %v", u)
		}
	}
}
