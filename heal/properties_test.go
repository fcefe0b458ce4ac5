package heal_test

import (
	"math/rand"
	"strconv"
	"testing"

	"spindle/api"
)

// drawn are some blocks at random.
func (x *pair) drawn(d *rand.Rand) []int {
	l := []int{}
	for range 1 + d.Intn(5) {
		l = append(l, d.Intn(blocksOf(x.g)))
	}
	return l
}

// batches are some, or none, now and then settled.
func (x *pair) batches(d *rand.Rand) {
	x.t.Helper()
	for range d.Intn(3) {
		x.write(x.drawn(d)...)
		if d.Intn(4) == 0 {
			x.settle()
		}
	}
}

// rebuild rebuilds all stripes of a member, with batches in between, and marks it as up behind each one.
func (x *pair) rebuild(member int, between func()) {
	x.t.Helper()
	for s := range x.g.Stripes {
		between()
		x.step(member, s, noTrouble())
		x.mark(member, true, (s+1)*x.g.Chunk)
	}
	between()
	x.mark(member, false, 0)
}

// wantAnyLost wants all blocks to be read as before, with none of the members down, and with any of them but one.
func (x *pair) wantAnyLost(member int) {
	x.t.Helper()
	for _, m := range x.others(member) {
		x.mark(m, true, 0)
		x.wantBlocks()
		x.mark(m, false, 0)
	}
	x.wantBlocks()
}

// Each stripe of a member is rebuilt, one after the other; then any other member may be down.
func TestRebuilding(t *testing.T) {
	for i, g := range shapes() {
		for _, lazy := range []bool{false, true} {
			for m := range g.Members {
				t.Run(strconv.Itoa(i), func(t *testing.T) {
					t.Parallel()
					d := rand.New(rand.NewSource(int64(m)))
					x := made(t, g, lazy)
					x.batches(d)
					x.renew(m, 0)
					x.rebuild(m, func() {})
					x.wantAnyLost(m)
				})
			}
		}
	}
}

// The same with batches in between, written to rows that are rebuilt and to rows that are not.
func TestRebuildingAmongBatches(t *testing.T) {
	for seed := range 150 {
		t.Run(strconv.Itoa(seed), func(t *testing.T) {
			t.Parallel()
			d := rand.New(rand.NewSource(int64(seed)))
			l := shapes()
			g := l[d.Intn(len(l))]
			x := made(t, g, d.Intn(2) == 0)
			for range 2 {
				x.batches(d)
				m := d.Intn(g.Members)
				x.renew(m, 0)
				x.rebuild(m, func() {
					x.batches(d)
					x.wantBlocks()
				})
				x.wantAnyLost(m)
				x.batches(d)
				x.wantAnyLost(m)
			}
		})
	}
}

// One member after the other fails for good and is rebuilt: none of the disks that were there first is left, and all is read as before.
func TestRebuildingAll(t *testing.T) {
	for _, g := range shapes() {
		x := made(t, g, true)
		d := rand.New(rand.NewSource(9))
		x.batches(d)
		for m := range g.Members {
			x.renew(m, 0)
			x.wantBlocks()
			x.rebuild(m, func() { x.batches(d) })
			x.wantBlocks()
		}
		x.fail(0)
		x.mark(0, true, 0)
		x.wantBlocks()
	}
}

// What was rebuilt is durable: a cut that keeps nothing, directly behind it or in the midst of a later Step, takes nothing of it.
func TestRebuiltIsDurable(t *testing.T) {
	for _, g := range shapes() {
		for _, m := range []int{0, g.Members - 1} {
			x := made(t, g, false)
			x.renew(m, 0)
			stripes := []int{}
			for s := range g.Stripes {
				for n := range g.Chunk*g.Members + 1 {
					x.trip(n)
					if u := x.attempt(m, s); u.Err != api.ErrBayDark {
						t.Fatalf("%v: Step(%d, %d) behind a trip of %d: %v", g, m, s, n, u)
					}
					x.cut()
					x.wantRebuilt(m, stripes...)
				}
				x.step(m, s, noTrouble())
				stripes = append(stripes, s)
				x.wantRebuilt(m, stripes...)
				x.cut()
				x.wantRebuilt(m, stripes...)
				x.mark(m, true, (s+1)*g.Chunk)
			}
			for row := range rowsOf(g) {
				data, _ := x.b.Read(m, 1+row)
				x.p.b.Read(m, 1+row)
				if string(data) != x.holds[spot{m, row}] {
					t.Fatalf("%v: member %d, row %d is another one behind the cuts", g, m, row)
				}
			}
			x.mark(m, false, 0)
			x.wantAnyLost(m)
		}
	}
}

// The power goes at any operation of a rebuilding, and whatever writes are kept: a Step with no trouble need not be made again.
func TestRebuildingAmongCuts(t *testing.T) {
	for seed := range 200 {
		d := rand.New(rand.NewSource(int64(seed)))
		l := shapes()
		g := l[d.Intn(len(l))]
		x := made(t, g, false)
		m := d.Intn(g.Members)
		x.renew(m, 0)
		for s := 0; s < g.Stripes; {
			x.trip(d.Intn(2 * g.Chunk * g.Members))
			switch u := x.attempt(m, s); u.Err {
			case api.OK:
				s++
				x.mark(m, true, s*g.Chunk)
			case api.ErrBayDark:
			default:
				t.Fatalf("Step(%v, %d, %d): %v", g, m, s, u)
			}
			keeps := make([][]bool, g.Members)
			for range g.Chunk {
				keeps[m] = append(keeps[m], d.Intn(2) == 0)
			}
			x.cut(keeps...)
		}
		x.mark(m, false, 0)
		x.wantAnyLost(m)
	}
}
