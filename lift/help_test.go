package lift_test

import (
	"cmp"
	"math"
	"slices"
	"testing"

	"spindle/api"
	"spindle/lift"
)

// patch has bytes that hang on c, each unlike its neighbours.
func patch(member, row int, c byte) api.Patch {
	data := make([]byte, 128)
	for i := range data {
		data[i] = c + byte(3*i)
	}
	return api.Patch{Member: member, Row: row, Data: data}
}

// patches are of triples of a member, a row, and what the bytes hang on.
func patches(triples ...[3]int) []api.Patch {
	l := []api.Patch{}
	for _, x := range triples {
		l = append(l, patch(x[0], x[1], byte(x[2])))
	}
	return l
}

// extremes are as great and as small as an int holds, or nearly so, and numbers whose lower bytes alone would be a member or a row.
func extremes() []int {
	return []int{
		math.MaxInt, math.MaxInt - 1, math.MinInt, math.MinInt + 1, math.MinInt + 5, 1 << 62, -1 << 62,
		1<<31 - 1, 1 << 31, 1<<32 + 1, 1<<32 + 5, -1 << 31, -1<<31 + 2, -1<<32 + 3, 65536 + 2, -65536 + 2, -256 + 3, -4096, -4095,
	}
}

func same(a, b api.Patch) bool {
	return a.Member == b.Member && a.Row == b.Row && slices.Equal(a.Data, b.Data)
}

func sameAll(a, b []api.Patch) bool { return slices.EqualFunc(a, b, same) }

// copied are patches with bytes of their own.
func copied(l []api.Patch) []api.Patch {
	l = slices.Clone(l)
	for i := range l {
		l[i].Data = slices.Clone(l[i].Data)
	}
	return l
}

// told is a short form of patches: the member, the row, and the first byte.
func told(l []api.Patch) [][3]int {
	short := [][3]int{}
	for _, p := range l {
		first := -1
		if len(p.Data) > 0 {
			first = int(p.Data[0])
		}
		short = append(short, [3]int{p.Member, p.Row, first})
	}
	return short
}

// plain is a lift with its patches in a list, which is sorted anew for each that comes out.
type plain struct {
	row  int
	list []api.Patch
}

func (p *plain) put(x api.Patch) {
	i := slices.IndexFunc(p.list, func(y api.Patch) bool { return y.Member == x.Member && y.Row == x.Row })
	if i >= 0 {
		p.list[i] = x
	} else {
		p.list = append(p.list, x)
	}
}

func (p *plain) next() (api.Patch, bool) {
	if len(p.list) == 0 {
		return api.Patch{}, false
	}
	slices.SortFunc(p.list, func(a, b api.Patch) int {
		return cmp.Or(cmp.Compare(a.Row, b.Row), cmp.Compare(a.Member, b.Member))
	})
	i := max(0, slices.IndexFunc(p.list, func(x api.Patch) bool { return x.Row >= p.row }))
	x := p.list[i]
	p.list = slices.Delete(p.list, i, i+1)
	p.row = x.Row
	return x, true
}

func (p *plain) all() []api.Patch {
	l := []api.Patch{}
	for x, ok := p.next(); ok; x, ok = p.next() {
		l = append(l, x)
	}
	return l
}

func made(t *testing.T, row int) *lift.Lift {
	t.Helper()
	l, e := lift.New(row)
	if l == nil || e != api.OK {
		t.Fatalf("New(%d): %v, %v", row, l, e)
	}
	return l
}

// filled is a lift at a row, with these patches.
func filled(t *testing.T, row int, l []api.Patch) *lift.Lift {
	t.Helper()
	r := made(t, row)
	for _, p := range l {
		wantPut(t, r, p, api.OK)
	}
	return r
}

func wantPut(t *testing.T, l *lift.Lift, p api.Patch, want api.Errno) {
	t.Helper()
	if e := l.Put(p); e != want {
		t.Errorf("Put of member %d, row %d, %d bytes: %v; want %v", p.Member, p.Row, len(p.Data), e, want)
	}
}

// wantIs is about how many patches there are, and the current row.
func wantIs(t *testing.T, l *lift.Lift, n, row int) {
	t.Helper()
	if l.Len() != n || l.Row() != row {
		t.Fatalf("Len and Row: %d, %d; want %d, %d", l.Len(), l.Row(), n, row)
	}
}

// wantNext is about one patch, and about Len and Row behind it.
func wantNext(t *testing.T, l *lift.Lift, want api.Patch) {
	t.Helper()
	n := l.Len()
	p, is := l.Next()
	if !is || !same(p, want) {
		t.Fatalf("Next: %v, %v; want %v, true", told([]api.Patch{p}), is, told([]api.Patch{want}))
	}
	wantIs(t, l, n-1, want.Row)
}

// wantNone is about a lift without patches, which stays as it is.
func wantNone(t *testing.T, l *lift.Lift, row int) {
	t.Helper()
	for range 2 {
		wantIs(t, l, 0, row)
		if p, is := l.Next(); is || p.Member != 0 || p.Row != 0 || len(p.Data) != 0 {
			t.Errorf("Next: %+v, %v; want none", p, is)
		}
		if all := l.All(); len(all) != 0 {
			t.Errorf("All: %v; want none", told(all))
		}
	}
	wantIs(t, l, 0, row)
}

// wantAll takes all patches out, at one blow, and then there are none.
func wantAll(t *testing.T, l *lift.Lift, want []api.Patch) {
	t.Helper()
	row := l.Row()
	if len(want) > 0 {
		row = want[len(want)-1].Row
	}
	wantIs(t, l, len(want), l.Row())
	if all := l.All(); !sameAll(all, want) {
		t.Fatalf("All: %v; want %v", told(all), told(want))
	}
	wantNone(t, l, row)
}

// wantEach takes all patches out one by one, and then there are none.
func wantEach(t *testing.T, l *lift.Lift, want []api.Patch) {
	t.Helper()
	wantIs(t, l, len(want), l.Row())
	for _, p := range want {
		wantNext(t, l, p)
	}
	wantNone(t, l, l.Row())
}

// orders are all orders of the numbers below n.
func orders(n int) [][]int {
	if n == 0 {
		return [][]int{nil}
	}
	l := [][]int{}
	for _, o := range orders(n - 1) {
		for at := range n {
			l = append(l, slices.Insert(slices.Clone(o), at, n-1))
		}
	}
	return l
}

// ordered are the patches in another order.
func ordered(l []api.Patch, order []int) []api.Patch {
	other := make([]api.Patch, len(l))
	for i, from := range order {
		other[i] = l[from]
	}
	return other
}
