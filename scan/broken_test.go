package scan_test

import (
	"slices"
	"testing"

	"spindle/api"
)

// wantBroken lays, into rings of noise, a batch of one patch, then one of n that a test changes, then a good one again: just the first one is to be found.
func wantBroken(t *testing.T, n int, change func(d *draft)) {
	t.Helper()
	places := 3 + 2*n + 1 + 3 + 2
	for _, tail := range []int{0, 2, places - 5, places - 1} {
		h := storied(places, api.Check{Epoch: 6, Seq: 40, Tail: tail}, 1, n, 1)
		h.wantFirst(t, 3)
		d := drafted(6, h.txns[1])
		change(d)
		for i, b := range d.sectors() {
			h = h.with(3+i, b)
		}
		h.wantFirst(t, 1)
	}
}

// wantAllBroken changes any one header of batches of one, two and four patches, with the commit's Sum right for it and wrong.
func wantAllBroken(t *testing.T, change func(h *api.Header)) {
	t.Helper()
	for _, n := range []int{1, 2, 4} {
		for i := range n {
			wantBroken(t, n, func(d *draft) { change(&d.headers[i]) })
			wantBroken(t, n, func(d *draft) {
				change(&d.headers[i])
				d.seal()
			})
		}
		wantBroken(t, n, func(d *draft) {
			for i := range d.headers {
				change(&d.headers[i])
			}
			d.seal()
		})
	}
}

func TestHeadersOfAnotherEpoch(t *testing.T) {
	for _, epoch := range []uint64{0, 1, 5, 7, 6 + 1<<32, 6 + 1<<61, greatest, greatest + 6, 1<<63 + 6} {
		wantAllBroken(t, func(h *api.Header) { h.Epoch = epoch })
	}
}

// Numbers that were there before, that come later, and that are none.
func TestHeadersOfAnotherNumber(t *testing.T) {
	for _, seq := range []uint64{0, 1, 39, 40, 42, 43, 41 + 1<<32, 41 + 1<<61, greatest, greatest + 41, 1<<63 + 41} {
		wantAllBroken(t, func(h *api.Header) { h.Seq = seq })
	}
}

func TestHeadersOfAnotherIndex(t *testing.T) {
	for _, by := range []int{-4, -3, -2, -1, 1, 2, 3, 4, 1022, 1 << 16, 1 << 31} {
		wantAllBroken(t, func(h *api.Header) { h.Index += by })
	}
}

func TestHeadersOfAnotherCount(t *testing.T) {
	for _, by := range []int{-4, -3, -2, -1, 1, 2, 3, 4, 1000, 1024, 1 << 16, 1 << 31} {
		wantAllBroken(t, func(h *api.Header) { h.Count += by })
	}
	for _, count := range []int{0, 1023, 1024} {
		wantAllBroken(t, func(h *api.Header) { h.Count = count })
	}
}

func TestHeadersOfAnotherSum(t *testing.T) {
	for _, by := range []uint32{1, 1 << 8, 1 << 16, 1 << 31, 1<<32 - 1} {
		wantAllBroken(t, func(h *api.Header) { h.Sum ^= by })
	}
}

// Headers that are not valid, though their checksums are right.
func TestHeadersThatAreNotValid(t *testing.T) {
	for _, member := range []int{16, 17, 255, 1 << 16, 1<<32 - 1} {
		wantAllBroken(t, func(h *api.Header) { h.Member = member })
	}
	for _, row := range []int{4096, 4097, 1 << 16, 1<<32 - 1} {
		wantAllBroken(t, func(h *api.Header) { h.Row = row })
	}
}

// A first header whose Index is another, also where the others go on from there.
func TestFirstIndex(t *testing.T) {
	for first := 1; first < 6; first++ {
		for _, count := range []int{2, 2 + first, 1023} {
			wantBroken(t, 2, func(d *draft) {
				for i := range d.headers {
					d.headers[i].Index, d.headers[i].Count = first+i, count
				}
				d.commit.Count = count
				d.seal()
			})
		}
	}
}

// Pairs that come in another order, or twice, or some of which are missing.
func TestOrderOfPairs(t *testing.T) {
	for _, order := range [][]int{{1, 0, 2}, {0, 2, 1}, {2, 1, 0}, {1, 2, 0}, {0, 0, 1}, {0, 1, 1}, {0, 0, 0}, {1, 1, 2}, {0, 2, 2}, {2, 2, 2}} {
		wantBroken(t, 3, func(d *draft) {
			was := *d
			d.headers, d.logged = nil, nil
			for _, i := range order {
				d.headers, d.logged = append(d.headers, was.headers[i]), append(d.logged, was.logged[i])
			}
			d.seal()
		})
	}
	for gone := range 3 {
		wantBroken(t, 3, func(d *draft) {
			d.headers, d.logged = slices.Delete(d.headers, gone, gone+1), slices.Delete(d.logged, gone, gone+1)
			d.seal()
		})
	}
	wantBroken(t, 3, func(d *draft) { // one pair more than Count says
		d.headers, d.logged = append(d.headers, d.headers[2]), append(d.logged, d.logged[2])
		d.headers[3].Index = 3
		d.seal()
	})
	wantBroken(t, 3, func(d *draft) { slices.Reverse(d.logged) })
}

func TestCommits(t *testing.T) {
	for _, n := range []int{1, 2, 4} {
		for _, epoch := range []uint64{0, 5, 7, 6 + 1<<32, greatest, greatest + 6} {
			wantBroken(t, n, func(d *draft) { d.commit.Epoch = epoch })
		}
		for _, seq := range []uint64{0, 1, 40, 42, 41 + 1<<32, greatest, greatest + 41} {
			wantBroken(t, n, func(d *draft) { d.commit.Seq = seq })
		}
		for _, count := range []int{0, n - 1, n + 1, n + 2, n + 256, 1023, 1024, n + 1<<16} {
			wantBroken(t, n, func(d *draft) { d.commit.Count = count })
		}
		for bit := range 32 {
			wantBroken(t, n, func(d *draft) { d.commit.Sum ^= 1 << bit })
		}
		wantBroken(t, n, func(d *draft) { d.commit.Sum = 0 })
		wantBroken(t, n, func(d *draft) { d.commit.Sum = sumOf(laid(d.headers[n-1]), d.logged[n-1]) })
	}
	// The Sum is of all headers, not of the first or the last one, nor of what stands behind them.
	wantBroken(t, 2, func(d *draft) { d.commit.Sum = sumOf(laid(d.headers[0])) })
	wantBroken(t, 2, func(d *draft) { d.commit.Sum = sumOf(laid(d.headers[1])) })
	wantBroken(t, 2, func(d *draft) {
		d.commit.Sum = sumOf(laid(d.headers[0]), d.logged[0], laid(d.headers[1]), d.logged[1])
	})
	wantBroken(t, 2, func(d *draft) { d.commit.Sum = sumOf(d.logged...) })
}

// A header ends with its own checksum, so that the Sum of a commit is the same for all batches of a length: it holds for other headers of the same batch, too, and they are found.
func TestHeadersWithOtherFields(t *testing.T) {
	for i := range 3 {
		for _, p := range []api.Patch{patch(0, 0, filled('n')), patch(15, 4095, filled(0)), patch(7, 9, marked("SPJL", 'n'))} {
			h := storied(11, api.Check{Epoch: 1, Seq: 1, Tail: 6}, 3, 1)
			was := drafted(1, h.txns[0])
			h.txns[0].Patches[i] = p
			d := drafted(1, h.txns[0])
			if d.commit != was.commit {
				t.Errorf("the commit is %+v, and was %+v", d.commit, was.commit)
			}
			d.commit = was.commit
			lay(h.ring, 6, d.sectors()...)
			h.wantFirst(t, 2)
		}
	}
}

// A pair that has something else in place of its header, while its data are those of the pair before, and the commit's Sum is right for all that stands in place of headers, or for the headers alone.
func TestPairsWithoutHeader(t *testing.T) {
	for i := range 3 {
		for _, other := range [][]byte{
			filled(0), filled('n'), marked("SPJL\x01", 0), summed(marked("SPJL\x01", 0)),
			laid(api.Header{Epoch: 6, Seq: 41, Index: i, Count: 3, Member: 16}),
			laid(api.Commit{Epoch: 6, Seq: 41, Count: 3}), laid(api.Check{Epoch: 6, Seq: 41}),
		} {
			for _, alone := range []bool{false, true} {
				h := storied(14, api.Check{Epoch: 6, Seq: 40, Tail: 8}, 1, 3, 1)
				d := drafted(6, h.txns[1])
				d.log(max(i, 1), d.logged[max(i, 1)-1], d.headers[max(i, 1)-1].Escaped)
				sectors := d.sectors()
				sectors[2*i] = other
				summed := [][]byte{sectors[0], sectors[2], sectors[4]}
				if alone {
					summed = slices.Delete(summed, i, i+1)
				}
				d.commit.Sum = sumOf(summed...)
				sectors[6] = laid(d.commit)
				for j, b := range sectors {
					h = h.with(3+j, b)
				}
				h.wantFirst(t, 1)
			}
		}
	}
}

// Sectors whose sums are right, and which are not what Escape may answer.
func TestDataThatUnescapeRefuses(t *testing.T) {
	for _, n := range []int{1, 2, 4} {
		for i := range n {
			for _, text := range []string{"SPJL", "SPJL\x01", "SPJL\x02\x00\x00\x00"} {
				wantBroken(t, n, func(d *draft) { d.log(i, marked(text, 0), false) })
				wantBroken(t, n, func(d *draft) { d.log(i, marked(text, 'x'), false) })
				wantBroken(t, n, func(d *draft) { d.log(i, marked(text, 'x'), true) })
			}
			for _, text := range []string{"\x00\x00\x00\x01", "\x01\x00\x00\x00", "\x00\x01\x00\x00", "\x00\x00\x01\x00", "\x00\x00\x00"} {
				wantBroken(t, n, func(d *draft) { d.log(i, marked(text, 'x'), true) })
			}
			wantBroken(t, n, func(d *draft) { d.log(i, laid(d.headers[0]), false) })
			wantBroken(t, n, func(d *draft) { d.log(i, laid(d.commit), false) })
		}
	}
}

// Data whose sums are right, and which Unescape accepts, are found as what they are, however the header came to be.
func TestDataThatUnescapeAccepts(t *testing.T) {
	for _, x := range []struct {
		logged  []byte
		escaped bool
		data    []byte
	}{
		{filled(0), false, filled(0)},
		{filled(0), true, marked("SPJL", 0)},
		{marked("\x00\x00\x00\x00", 'x'), false, marked("\x00\x00\x00\x00", 'x')},
		{marked("\x00\x00\x00\x00", 'x'), true, marked("SPJL", 'x')},
		{marked("SPJK", 'x'), false, marked("SPJK", 'x')},
		{marked("\x00SPJL", 'x'), false, marked("\x00SPJL", 'x')},
	} {
		for i := range 3 {
			h := storied(9, api.Check{Epoch: 1, Seq: 1, Tail: 4}, 3)
			h.txns[0].Patches[i].Data = x.data
			d := drafted(1, h.txns[0])
			d.log(i, x.logged, x.escaped)
			lay(h.ring, 4, d.sectors()...)
			h.wantFirst(t, 1)
		}
	}
}

// before says how many batches end ahead of the i-th sector from the tail on.
func (h history) before(i int) int {
	n := 0
	for n < len(h.txns) && h.used(n+1) <= i {
		n++
	}
	return n
}

// others are sectors that may stand in place of one.
func (h history) others(i int) [][]byte {
	l := [][]byte{
		filled(0), filled(255), noise(5)[:128],
		marked("SPJL", 0), marked("SPJL\x01", 0), summed(marked("SPJL\x01", 0)), summed(marked("SPJL\x02", 0)),
		laid(h.check), laid(api.Check{Epoch: h.check.Epoch, Seq: h.check.Seq + 1, Tail: 0}),
		laid(api.Commit{Epoch: h.check.Epoch, Seq: h.check.Seq + uint64(h.before(i))}),
	}
	for j := range h.used(len(h.txns)) {
		l = append(l, h.sector(j))
	}
	return l
}

// Each sector in place of each other one, a commit in place of a header and a header in place of a commit among them.
func TestOfOtherSectors(t *testing.T) {
	h := storied(20, api.Check{Epoch: 1, Seq: 1, Tail: 13}, 1, 3, 2)
	h.wantFirst(t, 3)
	for i := range h.used(3) {
		was := h.sector(i)
		for _, b := range h.others(i) {
			if slices.Equal(b, was) {
				continue
			}
			h.with(i, b).wantFirst(t, h.before(i))
		}
	}
}

// A commit where a batch would begin: batches of no patches are none.
func TestOfCommitsWithoutHeaders(t *testing.T) {
	for _, count := range []int{0, 1, 2, 1023} {
		for _, sum := range []uint32{0, sumOf(), sumOf(filled(0))} {
			h := storied(8, api.Check{Epoch: 1, Seq: 1, Tail: 2}, 1)
			h.with(3, laid(api.Commit{Epoch: 1, Seq: 2, Count: count, Sum: sum})).wantFirst(t, 1)
			h.with(0, laid(api.Commit{Epoch: 1, Seq: 1, Count: count, Sum: sum})).wantFirst(t, 0)
		}
	}
}

// A bit of any sector of any batch is another one: exactly the batches before it are found.
func TestOfEachBit(t *testing.T) {
	h := storied(19, api.Check{Epoch: 3, Seq: 9, Tail: 11}, 1, 3, 2)
	h.wantFirst(t, 3)
	for i := range h.used(3) {
		want := h.before(i)
		for bit := range 128 * 8 {
			b := h.sector(i)
			b[bit/8] ^= 1 << (bit % 8)
			h.with(i, b).wantFirst(t, want)
		}
	}
	for i := h.used(3); i < 19; i++ { // behind the batches it makes no difference
		for bit := range 128 * 8 {
			b := h.sector(i)
			b[bit/8] ^= 1 << (bit % 8)
			h.with(i, b).wantFirst(t, 3)
		}
	}
}

// The same in sectors that are escaped, or begin with zeros: the flag and the four bytes are looked at.
func TestOfEachBitOfMarkedData(t *testing.T) {
	h := storied(12, api.Check{Epoch: 3, Seq: 9, Tail: 8}, 4)
	for i, text := range []string{"SPJL", "\x00\x00\x00\x00", "SPJL\x02", "\x00"} {
		h.txns[0].Patches[i].Data = marked(text, 0)
	}
	lay(h.ring, 8, drafted(3, h.txns[0]).sectors()...)
	h.wantFirst(t, 1)
	for i := range 9 {
		for bit := range 128 * 8 {
			b := h.sector(i)
			b[bit/8] ^= 1 << (bit % 8)
			h.with(i, b).wantFirst(t, 0)
		}
	}
}
