package lift_test

import (
	"math/rand"
	"testing"

	"spindle/api"
	"spindle/lift"
)

func TestPutAtTheEdges(t *testing.T) {
	for _, at := range []int{0, 1, 2047, 4094, 4095} {
		for _, member := range []int{0, 1, 14, 15} {
			for _, row := range []int{0, 1, 4094, 4095} {
				p := patch(member, row, 'p')
				l := filled(t, at, []api.Patch{p})
				wantIs(t, l, 1, at)
				wantNext(t, l, p)
				wantNone(t, l, row)
			}
		}
	}
}

// All members of all rows have room at once.
func TestPutOfEachPlace(t *testing.T) {
	want := []api.Patch{}
	for i := range 4096 {
		for member := range 16 {
			want = append(want, patch(member, (i+1000)%4096, byte(i+member)))
		}
	}
	l := made(t, 1000)
	for i, at := range rand.New(rand.NewSource(1)).Perm(len(want)) {
		wantPut(t, l, want[at], api.OK)
		wantIs(t, l, i+1, 1000)
	}
	wantAll(t, l, want)
}

// some is a lift with patches of all kinds of places, from which one has been taken; and what comes out of it.
func some(t *testing.T) (*lift.Lift, []api.Patch) {
	t.Helper()
	l := filled(t, 5, patches([3]int{2, 7, 'a'}, [3]int{0, 0, 'b'}, [3]int{3, 5, 'c'}, [3]int{2, 9, 'd'}, [3]int{5, 7, 'e'}, [3]int{15, 4095, 'f'}, [3]int{2, 3, 'g'}))
	wantNext(t, l, patch(3, 5, 'c'))
	return l, patches([3]int{2, 7, 'a'}, [3]int{5, 7, 'e'}, [3]int{2, 9, 'd'}, [3]int{15, 4095, 'f'}, [3]int{0, 0, 'b'}, [3]int{2, 3, 'g'})
}

// wantRefusedPut is about patches that are refused, by lifts with others and without; nothing is changed by it.
func wantRefusedPut(t *testing.T, want api.Errno, l ...api.Patch) {
	t.Helper()
	full, all := some(t)
	empty := made(t, 9)
	for _, p := range l {
		wantPut(t, full, p, want)
		wantIs(t, full, 6, 5)
		wantPut(t, empty, p, want)
		wantIs(t, empty, 0, 9)
	}
	wantEach(t, full, all)
	wantNone(t, empty, 9)
}

func TestPutRefusesMembers(t *testing.T) {
	for _, member := range append([]int{-16, -15, -2, -1, 16, 17, 18, 31, 32, 255, 256, 4095}, extremes()...) {
		wantRefusedPut(t, api.ErrRange, patch(member, 0, 'x'), patch(member, 7, 'x'), patch(member, 4095, 'x'))
	}
}

func TestPutRefusesRows(t *testing.T) {
	for _, row := range append([]int{-2, -1, 4096, 4097, 4096 + 7, 8191, 8192}, extremes()...) {
		wantRefusedPut(t, api.ErrRange, patch(0, row, 'x'), patch(2, row, 'x'), patch(15, row, 'x'))
	}
}

func TestPutRefusesMembersWithRows(t *testing.T) {
	for _, member := range append([]int{-1, 16}, extremes()...) {
		for _, row := range append([]int{-1, 4096}, extremes()...) {
			wantRefusedPut(t, api.ErrRange, patch(member, row, 'x'))
		}
	}
}

// lengths are all that are near a sector's, a sector's many times, and none at all, but not a sector's.
func lengths() [][]byte {
	l := [][]byte{nil, {}}
	for _, n := range []int{1, 2, 64, 120, 126, 127, 129, 130, 136, 255, 256, 384, 128 + 65536} {
		l = append(l, make([]byte, n))
	}
	return append(l, make([]byte, 127, 128), make([]byte, 0, 128))
}

func TestPutRefusesLengths(t *testing.T) {
	for _, data := range lengths() {
		for _, p := range []api.Patch{{}, {Member: 2, Row: 7}, {Member: 15, Row: 4095}, {Member: 1, Row: 5}, {Member: 1, Row: 8}, {Member: 3, Row: 5}} {
			p.Data = data
			wantRefusedPut(t, api.ErrLength, p)
		}
	}
}

// Which member and which row are looked at ahead of the bytes.
func TestOrderOfErrors(t *testing.T) {
	for _, data := range lengths() {
		for _, at := range [][2]int{{-1, 0}, {16, 0}, {0, -1}, {0, 4096}, {-1, -1}, {16, 4096}, {-1, 4096}, {16, -1}, {1 << 62, 2}, {2, -1 << 63}} {
			wantRefusedPut(t, api.ErrRange, api.Patch{Member: at[0], Row: at[1], Data: data})
		}
	}
}

// One that is refused counts for nothing later, either: its place is free.
func TestPutBehindARefusedOne(t *testing.T) {
	l := made(t, 4)
	wantPut(t, l, api.Patch{Member: 1, Row: 4, Data: make([]byte, 129)}, api.ErrLength)
	wantPut(t, l, patch(1, 4, 'a'), api.OK)
	wantIs(t, l, 1, 4)
	wantPut(t, l, api.Patch{Member: 1, Row: 4}, api.ErrLength)
	wantNext(t, l, patch(1, 4, 'a'))
	wantPut(t, l, api.Patch{Member: 1, Row: 4}, api.ErrLength)
	wantNone(t, l, 4)
}

// The last one put replaces the others, ahead of the current row, at it and below it.
func TestPutReplaces(t *testing.T) {
	for _, row := range []int{0, 19, 20, 21, 4095} {
		l := made(t, 20)
		for _, c := range []byte("abcb") {
			wantPut(t, l, patch(3, row, c), api.OK)
			wantIs(t, l, 1, 20)
		}
		wantNext(t, l, patch(3, row, 'b'))
		wantNone(t, l, row)
	}
}

// One that replaces another stands where that one stood, in a lift with others around it.
func TestPutReplacesEachOfSeveral(t *testing.T) {
	_, all := some(t)
	for i, p := range all {
		l, want := some(t)
		want[i] = patch(p.Member, p.Row, 'z')
		wantPut(t, l, want[i], api.OK)
		wantIs(t, l, len(want), 5)
		wantAll(t, l, want)
	}
}

// A member alone, or a row alone, does not make two patches the same; nor do the two of them the other way round.
func TestPutBesides(t *testing.T) {
	l := filled(t, 0, patches([3]int{3, 5, 'a'}, [3]int{3, 6, 'b'}, [3]int{4, 5, 'c'}, [3]int{5, 3, 'd'}, [3]int{3, 4, 'e'}, [3]int{2, 5, 'f'}))
	wantIs(t, l, 6, 0)
	wantPut(t, l, patch(3, 5, 'g'), api.OK)
	wantIs(t, l, 6, 0)
	wantEach(t, l, patches([3]int{5, 3, 'd'}, [3]int{3, 4, 'e'}, [3]int{2, 5, 'f'}, [3]int{3, 5, 'g'}, [3]int{4, 5, 'c'}, [3]int{3, 6, 'b'}))
}

// Places that one number for both would mix up, 16 or 4096 of the one being one of the other.
func TestPutOfPlacesAlikeByNumber(t *testing.T) {
	want := patches([3]int{0, 1, 'a'}, [3]int{1, 1, 'b'}, [3]int{15, 1, 'c'}, [3]int{1, 15, 'd'}, [3]int{0, 16, 'e'}, [3]int{1, 16, 'f'}, [3]int{0, 256, 'g'}, [3]int{1, 256, 'h'})
	wantAll(t, filled(t, 1, want), want)
}
