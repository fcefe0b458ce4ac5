package rows_test

import (
	"math/rand"
	"strconv"
	"testing"

	"spindle/api"
)

// scene is what a call is tried in.
type scene struct {
	g      api.Geometry
	ring   int
	lazy   bool
	before string
	call   string
}

// scenes have calls that perform operations, in many states.
func scenes() []scene {
	l := []scene{}
	for _, lazy := range []bool{false, true} {
		for _, before := range []string{
			"", "write.0", "write.0 write.3", "write.1 settle write.0", "down.1.0", "write.0 down.0.0", "down.2.1 write.0.2", "write.0 write.0 write", "write.2 sync",
		} {
			for _, call := range []string{"write.0", "write.3.0", "write.1.0", "settle", "finish", "empty", "barrier", "place.2.1.0.1.0.0.2.1", "read.1", "read.0"} {
				l = append(l, scene{three(), 10, lazy, before, call})
			}
		}
		for _, before := range []string{"", "write.0.2", "down.0.0", "down.3.1 write.0.29", "write.6 write.7 write.8", "write.0 down.0.0"} {
			for _, call := range []string{"write.0", "write.0.2", "write.4.2.0", "write.29.0.8", "empty", "sector.0.0", "read.7"} {
				l = append(l, scene{four(), 17, lazy, before, call})
			}
		}
	}
	return l
}

// set is a scene ahead of its call.
func (s scene) set(t *testing.T) *pair {
	t.Helper()
	x := made(t, s.g, s.ring, s.lazy)
	x.run(s.before)
	return x
}

// reads are calls that read the first blocks, and the last one.
func reads(g api.Geometry) string {
	s := " read." + strconv.Itoa(blocksOf(g)-1)
	for block := range min(7, blocksOf(g)) {
		s += " read." + strconv.Itoa(block)
	}
	return s
}

// goOn makes calls behind a trouble, in one way or another.
func (x *pair) goOn(u api.Trouble, way int) {
	x.t.Helper()
	mark := ""
	if u.Slot < x.g.Members {
		mark = " down." + strconv.Itoa(u.Slot) + "." + strconv.Itoa(way%2)
	}
	some := reads(x.g)
	switch way {
	case 0:
		x.try(some + " back" + some + " finish settle write.0 empty" + mark + some)
	case 1:
		x.try(mark + " finish" + some + " settle" + some + " write.2.0 empty" + some)
	case 2:
		x.try("write.0" + mark + " write.0" + some + " settle empty write.3")
	case 3:
		x.cut([]bool{true, true}, nil, []bool{true}, []bool{false, true, true})
		x.try(some + mark + " write" + some + " finish back settle barrier" + some)
	case 4:
		x.try("settle" + mark + " settle back barrier empty" + some)
	}
}

// eachTrouble makes the call of a scene with each trouble that there may be, and goes on behind it. Everything is compared with the plain one.
func (s scene) eachTrouble(t *testing.T, way int) {
	t.Helper()
	for n := 0; ; n++ {
		x := s.set(t)
		x.trip(n)
		u := x.attempt(s.call)
		if (u.Err == api.ErrBayDark) != x.b.Dark() {
			t.Fatalf("%v: dark %v, and %v", s, x.b.Dark(), u)
		}
		dark := x.b.Dark()
		x.goOn(u, way)
		if !dark {
			break
		}
	}
	for slot := range s.g.Members + 1 {
		for n := 0; ; n++ {
			x := s.set(t)
			x.wear(slot, n)
			u := x.attempt(s.call)
			has := x.b.Has(slot)
			if want := (api.Trouble{Slot: slot, Err: api.ErrFailed}); has && u != noTrouble() || !has && u != want {
				t.Fatalf("%v: slot %d has a disk: %v; %v", s, slot, has, u)
			}
			x.goOn(u, way)
			if has {
				break
			}
		}
		x := s.set(t)
		x.pull(slot)
		u := x.attempt(s.call)
		if want := (api.Trouble{Slot: slot, Err: api.ErrBayEmpty}); u != noTrouble() && u != want {
			t.Fatalf("%v: slot %d is empty, and %v", s, slot, u)
		}
		x.goOn(u, way)
	}
}

func TestEachTrouble(t *testing.T) {
	for i, s := range scenes() {
		t.Run(strconv.Itoa(i), func(t *testing.T) {
			t.Parallel()
			s.eachTrouble(t, i%5)
		})
	}
}

// Several disks fail or are gone at once: the first that an operation meets is told.
func TestSeveralTroubles(t *testing.T) {
	r := rand.New(rand.NewSource(1))
	for _, s := range scenes() {
		for way := range 5 {
			x := s.set(t)
			for slot := range s.g.Members + 1 {
				switch r.Intn(5) {
				case 0:
					x.fail(slot)
				case 1:
					x.pull(slot)
				case 2:
					x.wear(slot, r.Intn(4))
				}
			}
			if r.Intn(3) == 0 {
				x.trip(r.Intn(20))
			}
			x.goOn(x.attempt(s.call), way)
		}
	}
}

// The disks are too small: the sectors that are not there are told as the disk tells it.
func TestSmallDisks(t *testing.T) {
	x := made(t, three(), 10, false)
	for _, b := range []interface {
		Fail(int) api.Errno
		Swap(int, int) api.Errno
	}{x.b, x.p.b} {
		b.Fail(2)
		b.Swap(2, 2) // row 0 has its sector, row 1 hasn't
	}
	x.run("sector.2.0")
	x.spendTrouble("sector.2.1", 2, api.ErrRange, 1, 0, 0)
	x.spendTrouble("place.0.1.2.1", 2, api.ErrRange, 0, 2, 0)
	x.spendTrouble("write.2", 2, api.ErrRange, 1, 4+1+2, 2)
	x.wantState(true, 2)
	x.run("down.2.1")
	x.spend("finish", 0, 1, 0)
	x.run(reads(x.g))
}
