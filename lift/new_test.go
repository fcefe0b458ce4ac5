package lift_test

import (
	"testing"

	"spindle/api"
	"spindle/lift"
)

func TestDocumentExamples(t *testing.T) {
	l := filled(t, 5, patches([3]int{0, 7, 'a'}, [3]int{1, 2, 'b'}, [3]int{2, 5, 'c'}, [3]int{0, 5, 'd'}))
	wantAll(t, l, patches([3]int{0, 5, 'd'}, [3]int{2, 5, 'c'}, [3]int{0, 7, 'a'}, [3]int{1, 2, 'b'}))
	wantIs(t, l, 0, 2)

	l = filled(t, 0, patches([3]int{1, 3, 'a'}, [3]int{0, 3, 'b'}, [3]int{1, 3, 'c'}))
	wantIs(t, l, 2, 0)
	wantNext(t, l, patch(0, 3, 'b'))
	wantPut(t, l, patch(0, 1, 'd'), api.OK)
	wantNext(t, l, patch(1, 3, 'c'))
	wantNext(t, l, patch(0, 1, 'd'))
	wantNone(t, l, 1)

	wantRefused(t, 4096)
	wantRefused(t, -1)
	wantPut(t, l, patch(16, 0, 'a'), api.ErrRange)
	wantPut(t, l, api.Patch{Data: make([]byte, 127)}, api.ErrLength)
}

func wantRefused(t *testing.T, row int) {
	t.Helper()
	if l, e := lift.New(row); l != nil || e != api.ErrRange {
		t.Errorf("New(%d): %v, %v; want nil, ErrRange", row, l, e)
	}
}

func TestNewAtEachRow(t *testing.T) {
	for row := range 4096 {
		wantNone(t, made(t, row), row)
	}
}

func TestNewAtTheEdges(t *testing.T) {
	least, most := made(t, 0), made(t, 4095)
	wantNone(t, least, 0)
	wantNone(t, most, 4095)
	ends := patches([3]int{0, 0, 'a'}, [3]int{15, 4095, 'b'})
	for _, p := range ends {
		wantPut(t, least, p, api.OK)
		wantPut(t, most, p, api.OK)
	}
	wantIs(t, least, 2, 0)
	wantIs(t, most, 2, 4095)
	wantEach(t, least, ends)
	wantEach(t, most, ordered(ends, []int{1, 0}))
}

func TestNewRefusesRows(t *testing.T) {
	for _, row := range append([]int{-2, -1, 4096, 4097, 8191, 8192}, extremes()...) {
		wantRefused(t, row)
	}
}

func TestErrorNumbers(t *testing.T) {
	l, none := lift.New(7)
	_, row := lift.New(-1)
	got := [4]api.Errno{none, row, l.Put(patch(0, -1, 'a')), l.Put(api.Patch{})}
	if want := [4]api.Errno{0, 3, 3, 4}; got != want {
		t.Errorf("%v; want %v", got, want)
	}
}
