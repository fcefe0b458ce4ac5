package record_test

import (
	"math"
	"testing"

	"spindle/api"
)

// with is v, in which something is otherwise.
func with[V any](v V, change func(v *V)) V {
	change(&v)
	return v
}

// wantEach sets a field to each number, the one behind the other, and asks whether the value is valid.
func wantEach[V, N any](t *testing.T, base V, set func(v *V, n N), valid, invalid []N) {
	t.Helper()
	for _, n := range valid {
		wantValid(t, with(base, func(v *V) { set(v, n) }))
	}
	for _, n := range invalid {
		wantInvalid(t, with(base, func(v *V) { set(v, n) }))
	}
}

func TestEpochs(t *testing.T) {
	valid := []uint64{0, 1, 255, 256, 1<<32 - 1, 1 << 32, 1<<62 - 1, 1 << 62}
	for _, h := range []api.Header{sampleHeader(), leastHeader(), greatestHeader()} {
		wantEach(t, h, func(h *api.Header, n uint64) { h.Epoch = n }, valid, wildWords)
	}
	for _, c := range []api.Commit{sampleCommit(), leastCommit(), greatestCommit()} {
		wantEach(t, c, func(c *api.Commit, n uint64) { c.Epoch = n }, valid, wildWords)
	}
	for _, c := range []api.Check{sampleCheck(), leastCheck(), greatestCheck()} {
		wantEach(t, c, func(c *api.Check, n uint64) { c.Epoch = n }, valid, wildWords)
	}
}

func TestSeqs(t *testing.T) {
	valid, invalid := []uint64{1, 2, 255, 256, 1<<32 - 1, 1 << 32, 1<<62 - 1, 1 << 62}, append([]uint64{0}, wildWords...)
	for _, h := range []api.Header{sampleHeader(), leastHeader(), greatestHeader()} {
		wantEach(t, h, func(h *api.Header, n uint64) { h.Seq = n }, valid, invalid)
	}
	for _, c := range []api.Commit{sampleCommit(), leastCommit(), greatestCommit()} {
		wantEach(t, c, func(c *api.Commit, n uint64) { c.Seq = n }, valid, invalid)
	}
	for _, c := range []api.Check{sampleCheck(), leastCheck(), greatestCheck()} {
		wantEach(t, c, func(c *api.Check, n uint64) { c.Seq = n }, valid, invalid)
	}
}

func TestHeaderCounts(t *testing.T) {
	set := func(h *api.Header, count int) { h.Count = count }
	wantEach(t, leastHeader(), set, []int{1, 2, 255, 256, 257, 1022, 1023},
		[]int{-1 << 63, -1<<32 + 1, -1023, -1, 0, 1024, 1025, 2047, 65536 + 1, 1 << 31, 1<<32 - 1, 1 << 32, 1<<32 + 1, 1<<63 - 1})
	wantEach(t, greatestHeader(), set, []int{1023}, append([]int{0, 1, 1021, 1022, 1024, 1025}, wildInts...))
	// The last one of so many.
	wantEach(t, leastHeader(), func(h *api.Header, count int) { h.Index, h.Count = count-1, count },
		[]int{1, 2, 3, 255, 256, 257, 1022, 1023}, append([]int{0, 1024, 1025, 2048}, wildInts...))
}

func TestHeaderIndexes(t *testing.T) {
	for _, count := range []int{1, 2, 3, 256, 257, 1022, 1023} {
		h := with(sampleHeader(), func(h *api.Header) { h.Count = count })
		wantEach(t, h, func(h *api.Header, index int) { h.Index = index },
			[]int{0, count / 2, max(count-2, 0), count - 1},
			append([]int{count, count + 1, 1023, 1024, -count, 1<<32 + count - 1}, wildInts...))
	}
	for _, count := range append([]int{0, 1024}, wildInts...) {
		h := with(sampleHeader(), func(h *api.Header) { h.Count = count })
		wantEach(t, h, func(h *api.Header, index int) { h.Index = index }, nil, append([]int{0, 1, 1022, 1023}, wildInts...))
	}
}

func TestHeaderMembers(t *testing.T) {
	for _, h := range []api.Header{sampleHeader(), leastHeader(), greatestHeader()} {
		wantEach(t, h, func(h *api.Header, member int) { h.Member = member },
			[]int{0, 1, 2, 14, 15}, append([]int{16, 17, 255, 256}, wildInts...))
	}
}

func TestHeaderRows(t *testing.T) {
	for _, h := range []api.Header{sampleHeader(), leastHeader(), greatestHeader()} {
		wantEach(t, h, func(h *api.Header, row int) { h.Row = row },
			[]int{0, 1, 255, 256, 4094, 4095}, append([]int{4096, 4097, 8191, 65535}, wildInts...))
	}
}

func TestHeaderEscaped(t *testing.T) {
	for _, h := range []api.Header{sampleHeader(), leastHeader(), greatestHeader()} {
		wantEach(t, h, func(h *api.Header, escaped bool) { h.Escaped = escaped }, []bool{false, true}, nil)
	}
}

func TestCommitCounts(t *testing.T) {
	for _, c := range []api.Commit{sampleCommit(), leastCommit(), greatestCommit()} {
		wantEach(t, c, func(c *api.Commit, count int) { c.Count = count },
			[]int{1, 2, 255, 256, 257, 1022, 1023}, append([]int{0, 1024, 1025, 2047, 2048}, wildInts...))
	}
}

func TestCheckTails(t *testing.T) {
	for _, c := range []api.Check{sampleCheck(), leastCheck(), greatestCheck()} {
		wantEach(t, c, func(c *api.Check, tail int) { c.Tail = tail },
			[]int{0, 1, 255, 256, 1023, 1024, 2046, 2047}, append([]int{2048, 2049, 4095}, wildInts...))
	}
}

func TestSums(t *testing.T) {
	sums := []uint32{0, 1, 9, 255, 256, 0x4c4a5053, 1 << 31, 1<<31 - 1, math.MaxUint32}
	for _, h := range []api.Header{sampleHeader(), leastHeader(), greatestHeader()} {
		wantEach(t, h, func(h *api.Header, sum uint32) { h.Sum = sum }, sums, nil)
	}
	for _, c := range []api.Commit{sampleCommit(), leastCommit(), greatestCommit()} {
		wantEach(t, c, func(c *api.Commit, sum uint32) { c.Sum = sum }, sums, nil)
	}
}

func TestNothingIsInvalid(t *testing.T) {
	for _, kind := range kinds {
		wantInvalid(t, nothing(kind))
	}
}

// All fields at once as great, and as small, as their types hold.
func TestAllWild(t *testing.T) {
	for _, n := range []int{math.MinInt, math.MaxInt} {
		for _, w := range []uint64{0, math.MaxUint64} {
			wantInvalid(t, api.Header{Epoch: w, Seq: w, Index: n, Count: n, Member: n, Row: n, Escaped: true, Sum: math.MaxUint32})
			wantInvalid(t, api.Header{Epoch: 1, Seq: 1, Index: n, Count: n, Member: n, Row: n})
			wantInvalid(t, api.Commit{Epoch: w, Seq: w, Count: n, Sum: math.MaxUint32})
			wantInvalid(t, api.Check{Epoch: w, Seq: w, Tail: n})
		}
	}
}
