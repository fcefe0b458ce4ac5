package lift_test

import (
	"testing"

	"spindle/api"
	"spindle/lift"
)

// way is where a lift stands, and what it has, in the order in which that comes out.
type way struct {
	name string
	row  int
	want []api.Patch
}

func ways() []way {
	return []way{
		{"at the current row alone", 6, patches([3]int{4, 6, 'a'})},
		{"ahead alone", 6, patches([3]int{4, 7, 'a'}, [3]int{2, 9, 'b'}, [3]int{3, 9, 'c'}, [3]int{0, 300, 'd'})},
		{"below alone", 6, patches([3]int{4, 0, 'a'}, [3]int{2, 3, 'b'}, [3]int{3, 3, 'c'}, [3]int{0, 5, 'd'})},
		{"at the current row and ahead", 6, patches([3]int{9, 6, 'a'}, [3]int{2, 7, 'b'})},
		{"at the current row and below", 6, patches([3]int{9, 6, 'a'}, [3]int{2, 5, 'b'})},
		{"ahead and below", 6, patches([3]int{9, 7, 'a'}, [3]int{2, 5, 'b'})},
		{"ahead, at the current row and below", 6, patches([3]int{9, 6, 'a'}, [3]int{5, 8, 'b'}, [3]int{1, 1, 'c'}, [3]int{0, 2, 'd'})},
		{"the nearest below comes last", 6, patches([3]int{9, 4095, 'a'}, [3]int{5, 0, 'b'}, [3]int{1, 5, 'c'})},
		{"from the first row", 0, patches([3]int{5, 0, 'a'}, [3]int{9, 1, 'b'}, [3]int{1, 4095, 'c'})},
		{"from the last row", 4095, patches([3]int{5, 4095, 'a'}, [3]int{9, 0, 'b'}, [3]int{1, 4094, 'c'})},
		{"rows go ahead of members", 3, patches([3]int{15, 3, 'a'}, [3]int{14, 4, 'b'}, [3]int{13, 5, 'c'}, [3]int{15, 0, 'd'}, [3]int{0, 1, 'e'})},
		{"members of three rows", 3, patches([3]int{0, 3, 'a'}, [3]int{1, 3, 'b'}, [3]int{0, 4, 'c'}, [3]int{1, 4, 'd'}, [3]int{0, 2, 'e'}, [3]int{1, 2, 'f'})},
	}
}

// The order in which the patches were put means nothing.
func TestNextInEachOrderOfPuts(t *testing.T) {
	for _, x := range ways() {
		t.Run(x.name, func(t *testing.T) {
			for _, order := range orders(len(x.want)) {
				wantEach(t, filled(t, x.row, ordered(x.want, order)), x.want)
				wantAll(t, filled(t, x.row, ordered(x.want, order)), x.want)
			}
		})
	}
}

// The smallest member of a row comes out first, wherever the row is, in every order of five members, the least and the greatest among them.
func TestMembersOfOneRow(t *testing.T) {
	for _, row := range []int{0, 99, 100, 101, 4095} {
		want := patches([3]int{0, row, 'a'}, [3]int{1, row, 'b'}, [3]int{2, row, 'c'}, [3]int{10, row, 'd'}, [3]int{15, row, 'e'})
		for _, order := range orders(5) {
			wantEach(t, filled(t, 100, ordered(want, order)), want)
		}
	}
}

// Of all sixteen members too, some of them put while others are taken.
func TestAllMembersOfOneRow(t *testing.T) {
	for _, row := range []int{29, 30, 31} {
		l := made(t, 30)
		for member := 15; member >= 0; member-- {
			wantPut(t, l, patch(member, row, byte(member)), api.OK)
		}
		for member := range 8 {
			wantNext(t, l, patch(member, row, byte(member)))
		}
		for member := range 8 {
			wantPut(t, l, patch(member, row, 'n'), api.OK)
		}
		for member := range 8 {
			wantNext(t, l, patch(member, row, 'n'))
		}
		for member := 8; member < 16; member++ {
			wantNext(t, l, patch(member, row, byte(member)))
		}
		wantNone(t, l, row)
	}
}

func TestRowBehindABeginningAgain(t *testing.T) {
	l := filled(t, 50, patches([3]int{1, 60, 'a'}, [3]int{1, 20, 'b'}, [3]int{1, 30, 'c'}))
	wantNext(t, l, patch(1, 60, 'a'))
	wantNext(t, l, patch(1, 20, 'b'))
	// It stands at row 20 now: what is below that waits until the way begins again, and what is not, does not.
	for _, p := range patches([3]int{1, 19, 'd'}, [3]int{1, 20, 'e'}, [3]int{0, 20, 'f'}, [3]int{1, 25, 'g'}, [3]int{1, 55, 'h'}) {
		wantPut(t, l, p, api.OK)
	}
	wantIs(t, l, 6, 20)
	wantEach(t, l, patches([3]int{0, 20, 'f'}, [3]int{1, 20, 'e'}, [3]int{1, 25, 'g'}, [3]int{1, 30, 'c'}, [3]int{1, 55, 'h'}, [3]int{1, 19, 'd'}))
	wantIs(t, l, 0, 19)
}

func TestManyBeginningsAgain(t *testing.T) {
	l := filled(t, 4000, patches([3]int{0, 3999, 0}))
	for i := range 1000 {
		row := 3999 - 2*i
		wantNext(t, l, patch(0, row, byte(i)))
		wantPut(t, l, patch(0, row-2, byte(i+1)), api.OK)
		wantIs(t, l, 1, row)
	}
}

// A patch that was removed is put again: nothing of the first one is left, and it comes out where its row is by then.
func TestPutAgain(t *testing.T) {
	for _, row := range []int{39, 40, 41} { // below the current row, at it, and ahead of it
		l := filled(t, row, patches([3]int{3, row, 'a'}))
		wantNext(t, l, patch(3, row, 'a'))
		wantPut(t, l, patch(4, 40, 'b'), api.OK)
		wantNext(t, l, patch(4, 40, 'b'))
		wantIs(t, l, 0, 40)
		want := patches([3]int{2, 40, 'c'}, [3]int{9, 41, 'd'}, [3]int{0, 39, 'e'}, [3]int{3, row, 'f'})
		for _, p := range want {
			wantPut(t, l, p, api.OK)
		}
		p := &plain{row: 40, list: want}
		wantEach(t, l, p.all())
	}
}

func TestPutAgainAtOnce(t *testing.T) {
	l := filled(t, 0, patches([3]int{3, 7, 'a'}, [3]int{4, 7, 'b'}, [3]int{0, 8, 'c'}, [3]int{0, 6, 'd'}))
	wantNext(t, l, patch(0, 6, 'd'))
	wantNext(t, l, patch(3, 7, 'a'))
	wantPut(t, l, patch(3, 7, 'e'), api.OK) // at the current row: ahead of the greater members of it
	wantIs(t, l, 3, 7)
	wantNext(t, l, patch(3, 7, 'e'))
	wantPut(t, l, patch(3, 7, 'f'), api.OK)
	wantPut(t, l, patch(3, 7, 'g'), api.OK)
	wantPut(t, l, patch(0, 6, 'h'), api.OK) // below it
	wantIs(t, l, 4, 7)
	wantEach(t, l, patches([3]int{3, 7, 'g'}, [3]int{4, 7, 'b'}, [3]int{0, 8, 'c'}, [3]int{0, 6, 'h'}))
}

// A row that was ahead when its patch was put, and is below when it is replaced, or the other way round, stays in its order.
func TestReplacedOnTheWay(t *testing.T) {
	l := filled(t, 10, patches([3]int{0, 10, 'a'}, [3]int{0, 20, 'b'}, [3]int{0, 5, 'c'}, [3]int{0, 8, 'd'}))
	wantNext(t, l, patch(0, 10, 'a'))
	wantPut(t, l, patch(0, 8, 'e'), api.OK)
	wantNext(t, l, patch(0, 20, 'b'))
	wantNext(t, l, patch(0, 5, 'c')) // row 8 was below, and is ahead now
	wantPut(t, l, patch(0, 8, 'f'), api.OK)
	wantPut(t, l, patch(0, 4, 'g'), api.OK)
	wantPut(t, l, patch(0, 7, 'h'), api.OK)
	wantIs(t, l, 3, 5)
	wantEach(t, l, patches([3]int{0, 7, 'h'}, [3]int{0, 8, 'f'}, [3]int{0, 4, 'g'}))
}

func TestNextWithoutPatches(t *testing.T) {
	l := made(t, 77)
	wantNone(t, l, 77)
	wantPut(t, l, patch(1, 70, 'a'), api.OK)
	wantNext(t, l, patch(1, 70, 'a'))
	wantNone(t, l, 70)
	wantPut(t, l, patch(1, 71, 'b'), api.OK)
	wantPut(t, l, patch(1, 69, 'c'), api.OK)
	wantAll(t, l, patches([3]int{1, 71, 'b'}, [3]int{1, 69, 'c'}))
	wantNone(t, l, 69)
}

// All of a lift goes on from where Next has taken it, however many were taken.
func TestAllOfALiftFromWhichSomeWereTaken(t *testing.T) {
	for _, x := range ways() {
		for taken := range len(x.want) + 1 {
			l := filled(t, x.row, x.want)
			for _, p := range x.want[:taken] {
				wantNext(t, l, p)
			}
			wantAll(t, l, x.want[taken:])
		}
	}
}

func TestAllTwice(t *testing.T) {
	for _, x := range ways() {
		l := filled(t, x.row, x.want)
		wantAll(t, l, x.want)
		wantAll(t, l, nil)
		last := x.want[len(x.want)-1].Row
		for _, p := range x.want {
			wantPut(t, l, p, api.OK)
		}
		again := &plain{row: last, list: copied(x.want)}
		wantAll(t, l, again.all())
		wantAll(t, l, nil)
	}
}

// What tells of a lift leaves it alone, and so does putting leave the current row.
func TestAskingChangesNothing(t *testing.T) {
	l := made(t, 12)
	for i, row := range []int{11, 12, 13, 0, 4095} {
		wantPut(t, l, patch(1, row, byte(i)), api.OK)
		for range 3 {
			wantIs(t, l, i+1, 12)
		}
	}
}

// Of every set of six rows, from each of them on: those that are not less, and then the others.
func TestNextOfEachSetOfRows(t *testing.T) {
	const rows = 6
	for set := 1; set < 1<<rows; set++ {
		for at := range rows {
			l := made(t, at)
			var ahead, below []api.Patch
			for row := rows - 1; row >= 0; row-- {
				if set>>row&1 == 1 {
					wantPut(t, l, patch(row%2, row, byte(row)), api.OK)
				}
			}
			for row := range rows {
				switch {
				case set>>row&1 == 0:
				case row >= at:
					ahead = append(ahead, patch(row%2, row, byte(row)))
				default:
					below = append(below, patch(row%2, row, byte(row)))
				}
			}
			wantEach(t, l, append(ahead, below...))
		}
	}
}

// The rows of All of a new lift begin again at most once, below where they stood.
func TestAllBeginsAgainAtMostOnce(t *testing.T) {
	for at := range 12 {
		l := made(t, at)
		for i := range 60 {
			wantPut(t, l, patch(i*5%7, i*7%12, byte(i)), api.OK)
		}
		wantOneWay(t, l, at)
	}
}

func wantOneWay(t *testing.T, l *lift.Lift, from int) {
	t.Helper()
	all, again := l.All(), 0
	for i := 1; i < len(all); i++ {
		if all[i].Row < all[i-1].Row {
			again++
			if all[i-1].Row < from || all[i].Row >= from {
				t.Errorf("from row %d: %v begins again at number %d", from, told(all), i)
			}
		}
	}
	if again > 1 {
		t.Errorf("from row %d: %v begins again %d times", from, told(all), again)
	}
}
