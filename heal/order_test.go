package heal_test

import (
	"slices"
	"testing"

	"spindle/api"
	"spindle/bay"
	"spindle/heal"
)

// slots is a bay with n disks of 9 sectors.
func slots(t *testing.T, n int) *bay.Bay {
	t.Helper()
	b, e := bay.New(slices.Repeat([]int{9}, n)...)
	if e != api.OK {
		t.Fatalf("bay.New: %v", e)
	}
	return b
}

// wantRefused wants a Step to be refused so, with nothing done: not even the trip is spent.
func wantRefused(t *testing.T, x *pair, b *bay.Bay, g api.Geometry, member, stripe int, want api.Errno) {
	t.Helper()
	b.Trip(0)
	was := b.Counts()
	if u := heal.Step(b, g, x.r, member, stripe); u != without(want) {
		t.Fatalf("%d slots: Step(%v, %d, %d): %v; want %v", b.Slots(), g, member, stripe, u, want)
	}
	if b.Counts() != was || b.Dark() {
		t.Fatalf("%d slots: Step(%v, %d, %d): %v, dark %v", b.Slots(), g, member, stripe, b.Counts(), b.Dark())
	}
	b.Cut()
	if x.b == b {
		x.p.b.Cut()
	}
	x.compare("a Step that is refused")
}

// invalid are geometries in which one number is wrong, or several are.
func invalid() []api.Geometry {
	l := []api.Geometry{
		{}, shape(2, 2, 4), shape(17, 2, 4), shape(3, 0, 4), shape(3, 17, 4), shape(3, 2, 0), shape(3, 2, 257),
		shape(2, 17, 257), shape(16, 16, 257), shape(16, 17, 256), shape(17, 16, 256), shape(3, -2, -4), shape(-3, 2, -4),
	}
	for _, n := range wild() {
		l = append(l, shape(n, 2, 4), shape(3, n, 4), shape(3, 2, n))
	}
	return l
}

// That a geometry isn't valid is told ahead of all else.
func TestGeometry(t *testing.T) {
	for _, down := range []bool{true, false} {
		x := made(t, shape(3, 2, 4), false)
		x.mark(1, down, 0)
		for _, g := range invalid() {
			for _, b := range []*bay.Bay{x.b, slots(t, 1), slots(t, 3), slots(t, 5), slots(t, 17), slots(t, max(1, min(g.Members, 16)+1))} {
				for _, at := range [][2]int{{1, 0}, {0, 0}, {-1, 0}, {3, 0}, {1, -1}, {1, 4}} {
					wantRefused(t, x, b, g, at[0], at[1], api.ErrGeomForm)
				}
			}
		}
	}
}

// The least and the greatest numbers of a geometry are let through.
func TestGreatestGeometry(t *testing.T) {
	for _, g := range []api.Geometry{shape(3, 1, 1), shape(16, 1, 1), shape(3, 16, 1), shape(3, 1, 256)} {
		x := made(t, g, false)
		wantRefused(t, x, x.b, g, g.Members-1, g.Stripes-1, api.ErrHealIdle)
		x.renew(g.Members-1, 0)
		x.spend(g.Members-1, g.Stripes-1, noTrouble(), g.Chunk*(g.Members-1), g.Chunk, 1)
		x.wantRebuilt(g.Members-1, g.Stripes-1)
	}
	wantRefused(t, made(t, three(), false), slots(t, 17), shape(16, 16, 256), 15, 255, api.ErrHealIdle)
}

// The bay has a slot for each member, and the journal's.
func TestSlots(t *testing.T) {
	for members := 3; members <= 16; members++ {
		g := shape(members, 1, 2)
		for _, down := range []bool{true, false} {
			x := made(t, g, false)
			x.mark(1, down, 0)
			for n := 1; n <= 17; n++ {
				if n == members+1 {
					continue
				}
				for _, at := range [][2]int{{1, 0}, {0, 0}, {-1, 0}, {members, 0}, {n - 1, 1}, {1, -1}, {1, 2}} {
					wantRefused(t, x, slots(t, n), g, at[0], at[1], api.ErrArg)
				}
			}
			if !down {
				wantRefused(t, x, slots(t, members+1), g, 1, 0, api.ErrHealIdle)
			}
		}
	}
}

// No other member, and no other stripe, is there; whatever is down, and whatever the disks have behind the rows.
func TestRange(t *testing.T) {
	for _, g := range shapes() {
		x := made(t, g, false)
		for m := range g.Members {
			x.mark(m, m%2 == 0, 0)
		}
		members := append(wild(), g.Members, g.Members+1, g.Members+2)
		stripes := append(wild(), g.Stripes, g.Stripes+1, rowsOf(g)+1)
		bad := func(n, many int) bool { return n < 0 || n >= many }
		for _, m := range append(members, 0, g.Members-1) {
			for _, s := range append(stripes, 0, g.Stripes-1) {
				if bad(m, g.Members) || bad(s, g.Stripes) {
					wantRefused(t, x, x.b, g, m, s, api.ErrRange)
				}
			}
		}
	}
}

// The first and the last member and stripe are there.
func TestRangeEnds(t *testing.T) {
	for _, g := range shapes() {
		for _, m := range []int{0, g.Members - 1} {
			for _, s := range []int{0, g.Stripes - 1} {
				x := made(t, g, false)
				x.renew(m, 0)
				x.step(m, s, noTrouble())
				x.wantRebuilt(m, s)
			}
		}
	}
}

// scene is a Step, and what is wrong with it.
type scene struct {
	*pair
	other          *bay.Bay // one that doesn't fit; nil if the pair's does
	g              api.Geometry
	member, stripe int
}

// fault is something that is wrong, and the trouble that tells it; of no trouble if nothing is.
type fault struct {
	want api.Trouble
	set  func(s *scene)
}

// faults are all that may be wrong with a Step of member 1 and stripe 1 of {4, 2, 3}, in the order in which they are told. Of each kind there are several; only one of them at once.
func faults(t *testing.T) [][]fault {
	t.Helper()
	return [][]fault{
		{
			{without(api.ErrGeomForm), func(s *scene) { s.g.Chunk = 0 }},
			{without(api.ErrGeomForm), func(s *scene) { s.g.Chunk = 17 }},
			{without(api.ErrGeomForm), func(s *scene) { s.g.Stripes = 0 }},
			{without(api.ErrGeomForm), func(s *scene) { s.g.Stripes = 257 }},
			{without(api.ErrGeomForm), func(s *scene) { s.g.Members = 17 }},
			{without(api.ErrGeomForm), func(s *scene) { s.g.Members = 2 }},
		},
		{
			{without(api.ErrArg), func(s *scene) { s.other = slots(t, 4) }},
			{without(api.ErrArg), func(s *scene) { s.other = slots(t, 6) }},
		},
		{
			{without(api.ErrRange), func(s *scene) { s.member = -1 }},
			{without(api.ErrRange), func(s *scene) { s.member = 4 }},
			{without(api.ErrRange), func(s *scene) { s.stripe = -1 }},
			{without(api.ErrRange), func(s *scene) { s.stripe = 3 }},
		},
		{
			{without(api.ErrHealIdle), func(s *scene) { s.mark(1, false, 0) }},
			{without(api.ErrHealIdle), func(s *scene) { s.mark(1, true, 3) }},
			{without(api.ErrHealIdle), func(s *scene) { s.mark(1, true, 4) }},
		},
		{
			{without(api.ErrPlanLost), func(s *scene) { s.mark(2, true, 2) }},
			{of(2, api.ErrFailed), func(s *scene) { s.fail(2) }},
			{of(3, api.ErrBayEmpty), func(s *scene) { s.pull(3) }},
			{of(0, api.ErrBayDark), func(s *scene) { s.trip(0) }},
		},
		{
			{of(1, api.ErrFailed), func(s *scene) { s.fail(1) }},
			{of(1, api.ErrBayEmpty), func(s *scene) { s.pull(1) }},
			{of(1, api.ErrRange), func(s *scene) { s.swap(1, 3) }},
			{of(1, api.ErrFailed), func(s *scene) { s.wear(1, 2) }},
		},
	}
}

// wantFirst wants the first of some faults to be told. What isn't refused is held against the plain one.
func wantFirst(t *testing.T, l []fault) {
	t.Helper()
	s := &scene{pair: made(t, shape(4, 2, 3), false), g: shape(4, 2, 3), member: 1, stripe: 1}
	s.mark(1, true, 2)
	want := noTrouble()
	for _, f := range slices.Backward(l) { // a mark ahead of the others, so that each is set as it is alone
		if f.set != nil {
			f.set(s)
			want = f.want
		}
	}
	b := s.b
	if s.other != nil {
		b = s.other
	}
	was := b.Counts()
	if want.Slot == 0 && slices.Contains([]api.Errno{api.ErrGeomForm, api.ErrArg, api.ErrRange, api.ErrHealIdle}, want.Err) {
		if u := heal.Step(b, s.g, s.r, s.member, s.stripe); u != want || b.Counts() != was || b.Dark() {
			t.Fatalf("%d slots, Step(%v, %d, %d): %v; want %v", b.Slots(), s.g, s.member, s.stripe, u, want)
		}
		s.compare("a Step that is refused")
		return
	}
	s.step(s.member, s.stripe, want)
}

// Of all troubles that there are at once the first one is told, with its slot.
func TestOrder(t *testing.T) {
	all := faults(t)
	for i := range all {
		all[i] = append(all[i], fault{})
	}
	at := make([]int, len(all))
	for {
		l := []fault{}
		for i, k := range at {
			l = append(l, all[i][k])
		}
		wantFirst(t, l)
		i := 0
		for i < len(at) && at[i] == len(all[i])-1 {
			at[i] = 0
			i++
		}
		if i == len(at) {
			return
		}
		at[i]++
	}
}
