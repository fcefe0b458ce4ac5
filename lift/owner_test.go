package lift_test

import (
	"slices"
	"testing"

	"spindle/api"
	"spindle/lift"
)

// scribble writes all over bytes, and behind them.
func scribble(data []byte) {
	data = data[:cap(data)]
	for i := range data {
		data[i] = ^data[i]
	}
}

// scribbleAll writes all over patches and their bytes, and behind them.
func scribbleAll(l []api.Patch) {
	for _, p := range l {
		scribble(p.Data)
	}
	l = l[:cap(l)]
	for i := range l {
		l[i] = api.Patch{Member: -7, Row: 1 << 40, Data: []byte{9}}
	}
}

// order is a lift's row, and patches in the order in which they come out of it: at its row, ahead, and below.
func order() (int, []api.Patch) {
	return 6, patches([3]int{1, 6, 'a'}, [3]int{3, 6, 'b'}, [3]int{0, 9, 'c'}, [3]int{2, 9, 'd'}, [3]int{1, 0, 'e'}, [3]int{1, 5, 'f'})
}

// What is handed in is scribbled over behind the Put, and comes out as it was.
func TestBytesHandedInAreNotKept(t *testing.T) {
	row, want := order()
	for range 2 {
		l := made(t, row)
		for _, p := range copied(want) {
			wantPut(t, l, p, api.OK)
			scribble(p.Data)
		}
		wantEach(t, l, want)
	}
}

// The same slice is handed in for each of several patches, with other bytes each time.
func TestOneSliceForAllPatches(t *testing.T) {
	row, want := order()
	l, data := made(t, row), make([]byte, 128)
	for _, p := range want {
		copy(data, p.Data)
		wantPut(t, l, api.Patch{Member: p.Member, Row: p.Row, Data: data}, api.OK)
	}
	wantAll(t, l, want)
	for _, p := range want {
		wantPut(t, l, api.Patch{Member: p.Member, Row: p.Row, Data: data}, api.OK)
	}
	all := l.All()
	if len(all) != len(want) {
		t.Fatalf("All: %v", told(all))
	}
	for i := range all { // none of them shares its bytes with another one, nor with data
		scribble(all[i].Data)
		for _, p := range all[i+1:] {
			if !slices.Equal(p.Data, data) || !slices.Equal(p.Data, want[len(want)-1].Data) {
				t.Fatalf("All, behind a change of number %d: %v", i, told(all))
			}
		}
	}
}

// A patch that is replaced is neither of the two that were handed in.
func TestBytesOfAReplacedPatch(t *testing.T) {
	l, first, second := made(t, 0), patch(1, 2, 'a'), patch(1, 2, 'b')
	wantPut(t, l, first, api.OK)
	wantPut(t, l, second, api.OK)
	if !same(first, patch(1, 2, 'a')) {
		t.Errorf("what was replaced is % x", first.Data)
	}
	scribble(first.Data)
	scribble(second.Data)
	wantNext(t, l, patch(1, 2, 'b'))
}

// What Next gives out is scribbled over, and changes nothing of what comes out later, of the same places too.
func TestNextIsItsOwners(t *testing.T) {
	row, list := order()
	l, p := filled(t, row, list), &plain{row: row, list: copied(list)}
	for range 3 {
		for range list {
			want, _ := p.next()
			got, is := l.Next()
			if !is || !same(got, want) {
				t.Fatalf("Next: %v, %v; want %v, true", told([]api.Patch{got}), is, told([]api.Patch{want}))
			}
			scribble(got.Data)
		}
		wantNone(t, l, p.row)
		for _, x := range list {
			wantPut(t, l, x, api.OK)
			p.put(x)
		}
	}
}

// What came out stays, whatever is done with the lift, or with what comes out later.
func TestWhatCameOutStays(t *testing.T) {
	row, want := order()
	l := filled(t, row, want)
	kept := []api.Patch{}
	for range 3 {
		p, _ := l.Next()
		kept = append(kept, p)
	}
	kept = append(kept, l.All()...)
	for i := range 40 {
		wantPut(t, l, patch(i%4, i%10, byte(i)), api.OK)
	}
	for range 7 {
		p, _ := l.Next()
		scribble(p.Data)
	}
	scribbleAll(l.All())
	if !sameAll(kept, want) {
		t.Errorf("what came out: %v; want %v", told(kept), told(want))
	}
}

// What All gives out has no part in what it gives out the next time, nor behind its end.
func TestAllIsItsOwners(t *testing.T) {
	row, want := order()
	l := filled(t, row, want)
	first := l.All()
	for _, p := range want {
		wantPut(t, l, p, api.OK)
	}
	scribbleAll(first)
	next := (&plain{row: 5, list: copied(want)}).all()
	second := l.All()
	if !sameAll(second, next) {
		t.Fatalf("All: %v; want %v", told(second), told(next))
	}
	for i := range second { // each has bytes of its own
		scribble(second[i].Data)
		if !sameAll(second[i+1:], next[i+1:]) {
			t.Fatalf("All, behind a change of number %d: %v; want %v", i, told(second), told(next))
		}
	}
	wantNone(t, l, next[len(next)-1].Row)
}

// The room behind the bytes of one patch is not where another one's bytes are.
func TestRoomBehindWhatComesOut(t *testing.T) {
	row, want := order()
	all := filled(t, row, want).All()
	for i, p := range all {
		scribble(p.Data[len(p.Data):])
		if !sameAll(all, want) {
			t.Fatalf("All, behind a change of the room behind number %d: %v; want %v", i, told(all), told(want))
		}
	}
	l := filled(t, row, want)
	for _, p := range want {
		got, _ := l.Next()
		scribble(got.Data[len(got.Data):])
		if !same(got, p) {
			t.Fatalf("Next: %v; want %v", told([]api.Patch{got}), told([]api.Patch{p}))
		}
	}
}

// What is handed in is left as it was, refused or not, and so is what lies behind it; nor does that come out.
func TestArgumentsAreLeft(t *testing.T) {
	for _, n := range []int{0, 127, 128, 129} {
		for _, at := range [][2]int{{0, 0}, {3, 9}, {-1, 0}, {3, 4096}} {
			long := slices.Repeat([]byte{7}, 300)
			p := api.Patch{Member: at[0], Row: at[1], Data: long[:n]}
			l := made(t, 5)
			l.Put(p)
			l.Put(p)
			wantRoom(t, l)
			if !slices.Equal(long, slices.Repeat([]byte{7}, 300)) {
				t.Errorf("bytes are % x", long)
			}
		}
	}
}

// wantRoom is about a lift of which all bytes are 7, and in none of whose slices there is a 7 behind the end.
func wantRoom(t *testing.T, l *lift.Lift) {
	t.Helper()
	for _, p := range l.All() {
		if !slices.Equal(p.Data, slices.Repeat([]byte{7}, 128)) {
			t.Errorf("bytes are % x", p.Data)
		}
		if slices.Contains(p.Data[128:cap(p.Data)], 7) {
			t.Errorf("behind the bytes there is % x", p.Data[128:cap(p.Data)])
		}
		scribble(p.Data)
	}
}
