package rows_test

import (
	"math/rand"
	"slices"
	"strconv"
	"strings"
	"testing"

	"spindle/api"
	"spindle/bay"
	"spindle/rows"
	"spindle/wal"
)

// tale is a Rows that the power may leave, with what its blocks were behind each batch.
type tale struct {
	t      *testing.T
	g      api.Geometry
	ring   int
	lazy   bool
	marks  []int // the rows from which on members are down; -1 if they are up
	b      *bay.Bay
	w      *wal.Wal
	r      *rows.Rows
	states [][]string // the blocks behind the batches, in order; ahead of the first one too
	first  uint64     // the number of the batch behind states[0]
	serial int
}

// taleOf is one with a member down from a row on (member -1: none).
func taleOf(t *testing.T, g api.Geometry, ring int, lazy bool, member, from int) *tale {
	t.Helper()
	x := &tale{t: t, g: g, ring: ring, lazy: lazy, marks: slices.Repeat([]int{-1}, g.Members), first: 1}
	x.b, x.w = laid(t, g, ring)
	if member >= 0 {
		x.marks[member] = from
	}
	x.begin()
	x.states = [][]string{x.blocks()}
	if member >= 0 { // what is down has nothing of use
		for row := from; row < rowsOf(g); row++ {
			x.b.Write(member, 1+row, full(0xee))
		}
		x.b.Flush(member)
	}
	return x
}

// begin is a new Rows on the same disks.
func (x *tale) begin() {
	x.t.Helper()
	r, e := rows.New(x.b, x.g, x.w, x.lazy)
	if e != api.OK {
		x.t.Fatalf("New: %v", e)
	}
	x.r = r
	for m, from := range x.marks {
		r.Mark(m, from >= 0, from)
	}
}

// blocks are all that are read now.
func (x *tale) blocks() []string {
	x.t.Helper()
	l := []string{}
	for block := range blocksOf(x.g) {
		data, u := x.r.Read(block)
		if u != noTrouble() {
			x.t.Fatalf("block %d: %v", block, u)
		}
		l = append(l, string(data))
	}
	return l
}

// write writes some blocks. If the batch was sealed, there is one state more.
func (x *tale) write(blocks ...int) api.Trouble {
	state := slices.Clone(x.states[len(x.states)-1])
	l := []api.Put{}
	for _, block := range blocks {
		x.serial++
		l = append(l, api.Put{Block: block, Data: random(x.serial)})
		state[block] = string(random(x.serial))
	}
	u := x.r.Write(l)
	if x.r.Sealed() {
		x.states = append(x.states, state)
	}
	return u
}

// play makes calls until one has a trouble.
func (x *tale) play(script string) {
	x.t.Helper()
	for _, call := range strings.Fields(script) {
		var u api.Trouble
		switch words := strings.Split(call, "."); words[0] {
		case "write":
			blocks := []int{}
			for _, word := range words[1:] {
				n, _ := strconv.Atoi(word)
				blocks = append(blocks, n%blocksOf(x.g))
			}
			u = x.write(blocks...)
		case "settle":
			u = x.r.Settle()
		case "barrier":
			u = x.r.Barrier()
		case "empty":
			u = x.r.Empty()
		default:
			x.t.Fatalf("no call %q", call)
		}
		if u.Err != api.OK && u.Err != api.ErrBayDark {
			x.t.Fatalf("%s: %v", call, u)
		}
		if u.Err != api.OK {
			return
		}
	}
}

// recover cuts, places what the journal has, and wants that to be one of the states that may be.
func (x *tale) recover(keeps [][]bool) {
	x.t.Helper()
	sealed, sure := len(x.states)-1, len(x.states)-1
	if !x.w.Sure() {
		sure--
	}
	if int(x.w.Next()-x.first) != sealed {
		x.t.Fatalf("%d batches are sealed, and the next one is number %d behind %d", sealed, x.w.Next(), x.first)
	}
	x.b.Cut(keeps...)
	w, found, e := wal.Open(x.b, x.g.Members, x.ring)
	if e != api.OK {
		x.t.Fatalf("wal.Open: %v", e)
	}
	k := int(w.Next() - x.first)
	if k < sure || k > sealed {
		x.t.Fatalf("%d batches are found; %d are sealed, and %d sure", k, sealed, sure)
	}
	x.w = w
	x.begin()
	for _, txn := range found {
		if u := x.r.Place(txn.Patches); u != noTrouble() {
			x.t.Fatalf("Place: %v", u)
		}
	}
	if got := x.blocks(); !slices.Equal(got, x.states[k]) {
		x.t.Fatalf("behind a cut of %d batches, of which %d are sure and %d found, the blocks are others", sealed, sure, k)
	}
	x.r.Barrier()
	x.w.Renew()
	x.states, x.first = [][]string{x.states[k]}, x.w.Next()
}

// choices are which writes may be kept: none, all, and others.
func (x *tale) choices(d *rand.Rand, many int) [][][]bool {
	none, all := [][]bool{}, [][]bool{}
	for slot := range x.b.Slots() {
		n := len(x.b.Pending(slot))
		none = append(none, make([]bool, n))
		all = append(all, slices.Repeat([]bool{true}, n))
	}
	one, others := slices.Clone(none), slices.Clone(all) // the journal is unlike the members
	one[x.g.Members], others[x.g.Members] = all[x.g.Members], none[x.g.Members]
	l := [][][]bool{none, all, one, others}
	for range many {
		some := [][]bool{}
		for slot := range none {
			keep := slices.Clone(none[slot])
			for i := range keep {
				keep[i] = d.Intn(2) == 0
			}
			some = append(some, keep)
		}
		l = append(l, some)
	}
	return l
}

// wantAtomic lets the power fail at each operation of a script, with many choices of the writes that are kept, and again behind that.
func wantAtomic(t *testing.T, made func() *tale, script string) {
	t.Helper()
	d := rand.New(rand.NewSource(int64(len(script))))
	for n := 0; ; n++ {
		x := made()
		x.b.Trip(n)
		x.play(script)
		dark := x.b.Dark()
		for _, keeps := range x.choices(d, 3) {
			x := made()
			x.b.Trip(n)
			x.play(script)
			x.recover(keeps)
			x.b.Trip(d.Intn(40))
			x.play("write.1.0 write.1 settle write.2 write.0.3 empty write.1")
			l := x.choices(d, 2)
			x.recover(l[d.Intn(len(l))])
			x.play("write.0 write.1")
			x.recover(nil)
		}
		if !dark {
			return
		}
	}
}

func TestAtomicity(t *testing.T) {
	scripts := []string{
		"write.0 write.1 write.0.1 write.2 empty write.3 write.0.2",
		"write.0.2 settle write.3 write.1 write.0 barrier write.2.3 settle write.2",
		"write.3 write.3 write.3 write.2 write.2 empty empty write.1 write.0",
	}
	for _, lazy := range []bool{false, true} {
		for i, script := range scripts {
			for member := -1; member < 3; member++ {
				t.Run(strconv.Itoa(i), func(t *testing.T) {
					t.Parallel()
					wantAtomic(t, func() *tale { return taleOf(t, three(), 9+i, lazy, member, i%2) }, script)
				})
			}
		}
	}
}

func TestAtomicityOfMoreMembers(t *testing.T) {
	for _, lazy := range []bool{false, true} {
		for member := -1; member < 4; member++ {
			t.Run(strconv.Itoa(member), func(t *testing.T) {
				t.Parallel()
				wantAtomic(t, func() *tale { return taleOf(t, four(), 19, lazy, member, max(member, 0)) }, "write.0.2 write.0.2.4 write.1.7.29 write.2 write.0.1.3")
			})
		}
	}
}

// Long tales at random, in which the power fails again and again.
func TestAtomicityAtRandom(t *testing.T) {
	for seed := range 60 {
		d := rand.New(rand.NewSource(int64(seed)))
		l := shapes()
		g := l[d.Intn(len(l))]
		x := taleOf(t, g, 9+d.Intn(20), d.Intn(2) == 0, d.Intn(g.Members+1)-1, d.Intn(rowsOf(g)+1))
		for range 25 {
			x.b.Trip(d.Intn(80))
			for range 8 {
				x.play([]string{"write.0", "write.0.1", "settle", "empty", "write." + strconv.Itoa(d.Intn(1000)), "write.5." + strconv.Itoa(d.Intn(1000))}[d.Intn(6)])
				if x.b.Dark() {
					break
				}
			}
			keeps := x.choices(d, 4)
			x.recover(keeps[d.Intn(len(keeps))])
		}
	}
}

// A member fails in the midst of it all, is taken down, and the call made again; then the power fails too.
func TestAtomicityWithAFailure(t *testing.T) {
	for seed := range 300 {
		d := rand.New(rand.NewSource(int64(seed)))
		x := taleOf(t, []api.Geometry{three(), four()}[seed%2], 9+d.Intn(20), d.Intn(2) == 0, -1, 0)
		gone := d.Intn(x.g.Members)
		x.b.Wear(gone, d.Intn(12))
		x.b.Trip(20 + d.Intn(80))
		for range 12 {
			blocks := []int{d.Intn(blocksOf(x.g)), d.Intn(blocksOf(x.g))}
			u := x.write(blocks...)
			if u == (api.Trouble{Slot: gone, Err: api.ErrFailed}) {
				x.marks[gone] = 0
				x.r.Mark(gone, true, 0)
				if x.r.Sealed() {
					u = x.r.Finish()
				} else {
					u = x.write(blocks...)
				}
			}
			if u.Err == api.ErrBayDark {
				break
			}
			if u != noTrouble() {
				t.Fatalf("seed %d: %v", seed, u)
			}
		}
		x.marks[gone] = 0 // even where nobody has seen it fail yet
		x.b.Fail(gone)
		keeps := x.choices(d, 4)
		x.recover(keeps[d.Intn(len(keeps))])
	}
}
