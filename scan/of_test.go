package scan_test

import (
	"slices"
	"testing"

	"spindle/api"
)

// empties are rings of so many places in which no batch has ever been.
func empties(places int) [][]byte {
	return [][]byte{
		make([]byte, places*128),
		slices.Repeat(filled(255), places),
		slices.Repeat(marked("SPJL", 0), places),
		slices.Repeat(marked("SPJL\x01", 0), places),
		slices.Repeat(laid(api.Check{Epoch: 1, Seq: 1, Tail: 0}), places),
		noise(places),
	}
}

func TestOfEmptyRings(t *testing.T) {
	for _, places := range []int{5, 6, 7, 31, 32} {
		for _, ring := range empties(places) {
			for tail := range places {
				wantNone(t, ring, api.Check{Epoch: 1, Seq: 1, Tail: tail})
				wantNone(t, ring, api.Check{Tail: tail, Seq: greatest})
			}
		}
	}
	for _, ring := range empties(2048) {
		wantNone(t, ring, api.Check{Epoch: 1, Seq: 1, Tail: 0})
		wantNone(t, ring, api.Check{Epoch: 1, Seq: 1, Tail: 2047})
	}
}

// Batches of all lengths that a ring has room for, from each of its places on: so their ends, and each of their sectors, are at the ring's end once.
func TestOfBatchesFromEachPlace(t *testing.T) {
	for places := 5; places <= 12; places++ {
		for tail := range places {
			c := api.Check{Epoch: 1, Seq: 1, Tail: tail}
			for n := 1; 2*n+1 <= places; n++ {
				storied(places, c, n).wantFirst(t, 1)
				for m := 1; 2*n+2*m+2 <= places; m++ {
					storied(places, c, n, m).wantFirst(t, 2)
				}
			}
		}
	}
}

// Batches one behind the other, each of which is found from when it is there, until the ring is full: there is no place left, or fewer than a batch has.
func TestOfRingsThatAreFilled(t *testing.T) {
	for _, c := range []struct {
		places  int
		lengths []int
	}{
		{5, []int{1}},
		{5, []int{2}},
		{6, []int{1, 1}},
		{7, []int{1, 1}},
		{8, []int{1, 2}},
		{9, []int{1, 1, 1}},
		{15, []int{1, 2, 3}},
		{16, []int{3, 2, 1}},
		{17, []int{1, 6}},
		{32, []int{1, 1, 1, 1, 1, 1, 1, 1, 1, 1}},
		{33, []int{5, 1, 2, 6}},
	} {
		for tail := range c.places {
			for n := range len(c.lengths) + 1 {
				storied(c.places, api.Check{Epoch: 3, Seq: 7, Tail: tail}, c.lengths[:n]...).wantFirst(t, n)
			}
		}
	}
}

func TestOfGreatRings(t *testing.T) {
	for _, tail := range []int{0, 1, 1000, 2045, 2046} {
		storied(2047, api.Check{Epoch: 1, Seq: 5, Tail: tail}, 1023).wantFirst(t, 1)
		c := api.Check{Epoch: 1, Seq: 5, Tail: tail + 1}
		storied(2048, c, 1023).wantFirst(t, 1)
		storied(2048, c, 511, 511).wantFirst(t, 2)
		storied(2048, c, 511, 510, 1).wantFirst(t, 3)
		storied(2048, c, slices.Repeat([]int{1}, 682)...).wantFirst(t, 682)
	}
}

// A batch that is longer than what is left of the ring: it has no room for its commit, or for more.
func TestOfBatchesThatAreTooLong(t *testing.T) {
	for _, x := range []struct {
		places  int
		lengths []int // of those that have room
		last    int
	}{
		{5, nil, 3}, {5, nil, 4}, {5, nil, 1023},
		{6, nil, 3}, {6, []int{2}, 1},
		{8, []int{1}, 3}, {8, []int{2}, 2}, {8, []int{3}, 1}, {8, []int{3}, 5},
		{9, []int{1, 1}, 2}, {9, []int{1, 1, 1}, 1}, {9, []int{1, 1, 1}, 4},
		{10, []int{1, 1}, 2}, {10, []int{1, 1, 1}, 1},
		{12, []int{1, 1}, 3}, {13, []int{1, 1}, 4}, {14, []int{1, 1}, 4},
	} {
		for tail := range x.places {
			h := storied(x.places, api.Check{Epoch: 1, Seq: 1, Tail: tail}, x.lengths...)
			n := len(x.lengths)
			sectors := drafted(1, batch(uint64(n+1), x.last)).sectors()
			used := h.used(n)
			for i, b := range sectors[:x.places-used] {
				h = h.with(used+i, b)
				h.wantFirst(t, n)
			}
			// What it is too long by lies on the first sectors, and those are no others then.
			for i := x.places - used; i < len(sectors); i++ {
				h = h.with(used+i, sectors[i])
				h.wantFirst(t, 0)
			}
		}
	}
}

// The commit of a batch that is too long by one sector, in each place that there is: it is never complete.
func TestOfCommitsInPlaceOfOthers(t *testing.T) {
	h := storied(8, api.Check{Epoch: 1, Seq: 1, Tail: 5}, 1)
	sectors := drafted(1, batch(2, 3)).sectors()
	for i := range 5 {
		h = h.with(3+i, sectors[i])
	}
	for i := range 5 {
		h.with(3+i, sectors[6]).wantFirst(t, 1)
	}
}
