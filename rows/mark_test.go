package rows_test

import (
	"math"
	"testing"

	"spindle/api"
)

// wantDown wants a member to be down from a row on, and not ahead of it.
func (x *pair) wantDown(member, from int) {
	x.t.Helper()
	for _, row := range []int{math.MinInt, -1, 0, 1, 2, 3, from - 1, from, from + 1, 1 << 32, math.MaxInt - 1, math.MaxInt} {
		if from == math.MinInt && row == math.MaxInt || from == math.MaxInt && row == math.MinInt {
			continue // one row beside these is another one, far away
		}
		if got, want := x.r.Down(member, row), row >= max(from, 0); got != want {
			x.t.Errorf("down from %d on: Down(%d, %d) is %v", from, member, row, got)
		}
	}
}

func TestMark(t *testing.T) {
	for _, g := range []api.Geometry{three(), four(), shape(16, 1, 1)} {
		x := made(t, g, 0, false)
		for m := range g.Members {
			for _, from := range []int{0, 1, 2, rowsOf(g) - 1, rowsOf(g), rowsOf(g) + 1, 5000, 1 << 32, math.MaxInt, -1, -2, math.MinInt} {
				x.mark(m, true, from)
				x.wantDown(m, from)
			}
			x.mark(m, false, 3)
			for _, row := range []int{math.MinInt, -1, 0, 3, math.MaxInt} {
				if x.r.Down(m, row) {
					t.Errorf("member %d is up, and down at row %d", m, row)
				}
			}
			x.mark(m, true, m) // and stays so, whatever becomes of the others
		}
		for m := range g.Members {
			x.wantDown(m, m)
		}
	}
}

// Where there is no such member nothing happens, and none is down.
func TestMarkOfNoMember(t *testing.T) {
	x := made(t, three(), 0, false)
	x.mark(1, true, 1)
	for _, m := range append(misfits(), 3, 4, 16, 17) {
		if m >= 0 && m < 3 {
			continue
		}
		x.mark(m, true, 0)
		for _, row := range []int{-1, 0, 1, math.MaxInt} {
			if x.r.Down(m, row) {
				t.Errorf("Down(%d, %d)", m, row)
			}
		}
		x.mark(m, false, 0)
	}
	if x.r.Down(0, 1) || x.r.Down(1, 0) || !x.r.Down(1, 1) || x.r.Down(2, 1) {
		t.Errorf("another member has been marked")
	}
}

// Mark and Down are no operations, and go without power.
func TestMarkWithoutPower(t *testing.T) {
	x := made(t, three(), 10, true)
	x.run("write.0")
	x.trip(0)
	x.call("barrier", 0, api.ErrBayDark)
	x.spend("down.0.1", 0, 0, 0)
	x.wantDown(0, 1)
	x.spend("up.0", 0, 0, 0)
	x.wantState(true, 2)
}

// What waits goes on waiting, whatever becomes of its member.
func TestMarkLeavesWhatWaits(t *testing.T) {
	x := made(t, three(), 10, true)
	x.run("write.0 down.0.0 down.2.0")
	x.wantState(true, 2)
	x.run("up.0 up.2")
	x.wantState(true, 2)
	x.spend("settle", 0, 2, 1)
}
