package lift_test

import (
	"math/rand"
	"slices"
	"testing"

	"spindle/api"
	"spindle/lift"
)

// world is how many members and rows the patches of a test at random have.
type world struct{ members, rows int }

// worlds are from one in which nearly each patch replaces another to the greatest one.
func worlds() []world { return []world{{2, 3}, {1, 40}, {16, 1}, {4, 8}, {16, 64}, {16, 4096}} }

// drawn is a patch at random, one that is refused now and then.
func (w world) drawn(r *rand.Rand) api.Patch {
	p := patch(r.Intn(w.members), r.Intn(w.rows), byte(r.Intn(256)))
	switch r.Intn(20) {
	case 0:
		p.Data = p.Data[:r.Intn(128)]
	case 1:
		p.Row = [4]int{-1, 4096, p.Row - 4096, p.Row + 4096}[r.Intn(4)]
	case 2:
		p.Member = [4]int{-1, 16, p.Member - 16, p.Member + 16}[r.Intn(4)]
	}
	return p
}

// errorOf is what is to be answered for a patch.
func errorOf(p api.Patch) api.Errno {
	switch {
	case p.Member < 0 || p.Member > 15 || p.Row < 0 || p.Row > 4095:
		return api.ErrRange
	case len(p.Data) != 128:
		return api.ErrLength
	}
	return api.OK
}

// step does something at random with a lift, and with a plain one; puts of 10 are Puts, and the others nearly all Nexts.
func (w world) step(t *testing.T, r *rand.Rand, l *lift.Lift, p *plain, puts int) {
	t.Helper()
	switch {
	case r.Intn(10) < puts:
		x := w.drawn(r)
		e := errorOf(x)
		wantPut(t, l, x, e)
		if e == api.OK {
			p.put(x)
		}
	case r.Intn(40) == 0:
		row := p.row
		wantIs(t, l, len(p.list), row)
		wantAll(t, l, p.all())
	default:
		wantPlainNext(t, l, p)
	}
	wantIs(t, l, len(p.list), p.row)
}

func wantPlainNext(t *testing.T, l *lift.Lift, p *plain) {
	t.Helper()
	want, is := p.next()
	if is {
		wantNext(t, l, want)
	} else {
		wantNone(t, l, p.row)
	}
}

func TestAtRandom(t *testing.T) {
	source := rand.New(rand.NewSource(10))
	for _, w := range worlds() {
		for puts := 3; puts <= 8; puts++ {
			for range 6 {
				row := source.Intn(w.rows)
				l, p := made(t, row), &plain{row: row}
				for range 200 {
					w.step(t, source, l, p, puts)
				}
				wantEach(t, l, p.all())
			}
		}
	}
}

// Lifts that are filled, emptied and filled again.
func TestAtRandomByTides(t *testing.T) {
	source := rand.New(rand.NewSource(20))
	for _, w := range worlds() {
		row := source.Intn(4096)
		l, p := made(t, row), &plain{row: row}
		for range 6 {
			for range 120 {
				w.step(t, source, l, p, 10)
			}
			for len(p.list) > 0 {
				wantPlainNext(t, l, p)
			}
			wantNone(t, l, p.row)
		}
	}
}

// account has, for each place, the bytes that are to come out of it next, if it waits.
type account map[[2]int][]byte

func (a account) put(p api.Patch) { a[[2]int{p.Member, p.Row}] = slices.Clone(p.Data) }

// wantOut is about a patch that came out: it is one that was put and has not come out since, with the bytes that were put last.
func (a account) wantOut(t *testing.T, p api.Patch) {
	t.Helper()
	at := [2]int{p.Member, p.Row}
	data, waits := a[at]
	if !waits || !slices.Equal(p.Data, data) {
		t.Fatalf("%v came out; it waits: %v, with % x", told([]api.Patch{p}), waits, data)
	}
	delete(a, at)
}

// Whatever the order is: each patch that was put, and not replaced, comes out once, with the bytes that were put last.
func TestEachComesOutOnce(t *testing.T) {
	source := rand.New(rand.NewSource(30))
	for _, w := range worlds() {
		l, a := made(t, source.Intn(w.rows)), account{}
		for range 3000 {
			if source.Intn(2) == 0 {
				p := patch(source.Intn(w.members), source.Intn(w.rows), byte(source.Intn(256)))
				wantPut(t, l, p, api.OK)
				a.put(p)
			} else if p, is := l.Next(); is {
				a.wantOut(t, p)
			} else if len(a) > 0 {
				t.Fatalf("%d patches wait, and none comes out", len(a))
			}
			wantIs(t, l, len(a), l.Row())
		}
		for _, p := range l.All() {
			a.wantOut(t, p)
		}
		if len(a) > 0 {
			t.Fatalf("%d patches never came out", len(a))
		}
	}
}

// Patches of unlike places, in many orders, come out alike.
func TestOrderOfPutsMeansNothing(t *testing.T) {
	source := rand.New(rand.NewSource(40))
	for _, w := range []world{{4, 8}, {16, 64}, {16, 4096}} {
		p := &plain{}
		for range 100 {
			p.put(patch(source.Intn(w.members), source.Intn(w.rows), byte(source.Intn(256))))
		}
		row, list := source.Intn(w.rows), slices.Clone(p.list)
		p.row = row
		want := p.all()
		for range 50 {
			wantAll(t, filled(t, row, ordered(list, source.Perm(len(list)))), want)
		}
	}
}

// Each lift goes its own way, also where they began alike.
func TestLiftsDoNotKnowOfEachOther(t *testing.T) {
	source := rand.New(rand.NewSource(50))
	w := world{4, 8}
	lifts, plains := []*lift.Lift{}, []*plain{}
	for i := range 6 {
		lifts, plains = append(lifts, made(t, i/3)), append(plains, &plain{row: i / 3})
	}
	for range 1500 {
		i := source.Intn(len(lifts))
		w.step(t, source, lifts[i], plains[i], 6)
		for j, l := range lifts {
			wantIs(t, l, len(plains[j].list), plains[j].row)
		}
	}
	for i, l := range lifts {
		wantEach(t, l, plains[i].all())
	}
}

// Two lifts have a patch of the same place each, of which one is taken, and the other is not.
func TestTwoLiftsWithTheSamePlaces(t *testing.T) {
	a := filled(t, 3, patches([3]int{1, 3, 'a'}, [3]int{1, 2, 'b'}))
	b := filled(t, 3, patches([3]int{1, 3, 'c'}, [3]int{1, 2, 'd'}, [3]int{0, 9, 'e'}))
	wantAll(t, a, patches([3]int{1, 3, 'a'}, [3]int{1, 2, 'b'}))
	wantIs(t, b, 3, 3)
	wantPut(t, a, patch(0, 9, 'f'), api.OK)
	wantEach(t, b, patches([3]int{1, 3, 'c'}, [3]int{0, 9, 'e'}, [3]int{1, 2, 'd'}))
	wantIs(t, a, 1, 2)
	wantEach(t, a, patches([3]int{0, 9, 'f'}))
}

// The same calls of lifts that began alike answer the same.
func TestAlikeLiftsStayAlike(t *testing.T) {
	a, b := made(t, 5), made(t, 5)
	first, second := rand.New(rand.NewSource(60)), rand.New(rand.NewSource(60))
	w := world{16, 64}
	p, q := &plain{row: 5}, &plain{row: 5}
	for range 400 {
		w.step(t, first, a, p, 6)
		w.step(t, second, b, q, 6)
	}
	if x, y := a.All(), b.All(); !sameAll(x, y) {
		t.Errorf("All: %v, %v", told(x), told(y))
	}
}
