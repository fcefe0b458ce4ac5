package rows_test

import (
	"bytes"
	"slices"
	"testing"

	"spindle/api"
	"spindle/rows"
)

// scribble writes all over bytes and behind them.
func scribble(b []byte) {
	b = b[:cap(b)]
	for i := range b {
		b[i] = ^b[i]
	}
}

// roomy are bytes with others behind them, in the room that they have.
func roomy(b []byte) []byte {
	return append(append(make([]byte, 0, 400), b...), random(77)...)[:len(b)]
}

// waiting is a pair in which patches wait for the members 0, 1 and 3 in row 0, and member 2 is down.
func waiting(t *testing.T) *pair {
	t.Helper()
	x := made(t, four(), 20, true)
	x.run("write.0.2 down.2.0")
	x.wantState(true, 3)
	return x
}

// What is answered is its owner's: what waits, what is read, and what is worked out.
func TestSectorsAreTheirOwners(t *testing.T) {
	x := waiting(t)
	for row := range 3 {
		for m := range 4 {
			first, _ := x.sector(m, row)
			second, _ := x.sector(m, row)
			want := bytes.Clone(first)
			scribble(first)
			first = append(first[:0], 1, 2, 3)
			if !bytes.Equal(second, want) {
				t.Errorf("two answers of member %d, row %d share their bytes", m, row)
			}
			third, _ := x.sector(m, row)
			if !bytes.Equal(third, want) {
				t.Errorf("member %d, row %d is another one now: %x", m, row, third)
			}
			scribble(second)
			if !bytes.Equal(third, want) {
				t.Errorf("two answers of member %d, row %d share their bytes", m, row)
			}
		}
	}
	for block := range 9 {
		data, _ := x.read(block)
		scribble(data)
		x.read(block)
	}
	x.run("settle barrier")
}

// The room behind one answer is nobody else's.
func TestRoomBehindSectors(t *testing.T) {
	x := waiting(t)
	l := [][]byte{}
	for m := range 4 {
		for range 2 {
			data, _ := x.sector(m, 0)
			l = append(l, data)
		}
	}
	for i, data := range l {
		was := slices.Concat(l...)
		_ = append(data, full(0xff)...)
		if !bytes.Equal(slices.Concat(l...), was) {
			t.Errorf("what stands behind answer %d is another one's", i)
		}
	}
	for m := range 4 {
		x.sector(m, 0)
	}
}

// batches are some that share bytes, have equal blocks, or are refused.
func batches(x *pair) [][]api.Put {
	long := roomy(slices.Concat(random(5), random(6)))
	shared := []api.Put{{Block: 0, Data: long[:128]}, {Block: 1, Data: long[64:192]}, {Block: 2, Data: long[:128]}, {Block: 0, Data: long[128:256]}}
	return [][]api.Put{
		x.puts(0), x.puts(6, 0, 2, 0), shared, append(x.puts(0), shared...), {{Block: 1, Data: roomy(full(1)[:127])}},
		x.puts(0, 1, 2, 3, 4, 5, 6, 7, 8, 9), x.puts(30, 1), slices.Repeat(x.puts(3), 257), x.puts(29, 0),
	}
}

func copyOfPuts(l []api.Put) []api.Put {
	l = slices.Clone(l)
	for i, p := range l {
		l[i].Data = bytes.Clone(p.Data)
	}
	return l
}

func samePuts(a, b []api.Put) bool {
	return slices.EqualFunc(a, b, func(p, q api.Put) bool { return p.Block == q.Block && bytes.Equal(p.Data, q.Data) })
}

// A batch isn't changed, nor what stands behind it; and nothing of it is kept.
func TestWriteLeavesTheBatch(t *testing.T) {
	for _, marks := range []string{"", "down.0.0", "down.3.0", "down.1.0 down.2.0"} {
		for _, lazy := range []bool{false, true} {
			for i := range 9 {
				x := made(t, four(), 20, lazy)
				x.run("write.8 " + marks)
				l := batches(x)[i]
				behind := api.Put{Block: 7, Data: full(7)}
				l = append(l, behind)[:len(l)]
				was := copyOfPuts(l)
				x.write(l)
				if !samePuts(l, was) || !samePuts(l[:len(l)+1][len(l):], []api.Put{{Block: 7, Data: full(7)}}) {
					t.Errorf("batch %d was changed", i)
				}
				for k := range l {
					scribble(l[k].Data)
					l[k] = api.Put{Block: -1}
				}
				for block := range 9 {
					x.read(block) // as the plain one, which keeps texts
				}
				x.run("settle")
				for block := range 9 {
					x.read(block)
				}
				x.run("empty")
			}
		}
	}
}

// Patches aren't changed, nor their order, nor what stands behind them; and nothing of them is kept.
func TestPlaceLeavesThePatches(t *testing.T) {
	for _, marks := range []string{"", "down.0.0", "down.0.0 down.1.0"} {
		x := made(t, four(), 20, true)
		x.run("write.0 " + marks)
		long := roomy(slices.Concat(random(5), random(6)))
		l := append(x.patches(3, 9, 0, 0, 2, 1, 0, 0), api.Patch{Member: 1, Row: 2, Data: long[:128]}, api.Patch{Member: 1, Row: 0, Data: long[100:228]}, api.Patch{Member: 2, Row: 0, Data: full(3)})[:6]
		was := slices.Clone(l[:7])
		for i := range was {
			was[i].Data = bytes.Clone(was[i].Data)
		}
		for _, n := range []int{6, 5, 4} {
			x.place(l[:n])
			x.place(append(l[:n:n], api.Patch{Member: 4, Data: full(1)}))
			x.place(append(l[:n:n], api.Patch{Member: 1, Data: full(1)[1:]}))
		}
		for i, p := range l[:7] {
			if p.Member != was[i].Member || p.Row != was[i].Row || !bytes.Equal(p.Data, was[i].Data) {
				t.Errorf("patch %d was changed", i)
			}
		}
		for _, p := range l[:7] {
			scribble(p.Data)
		}
		clear(l)
		for row := range 10 {
			for m := range 4 {
				x.sector(m, row)
			}
		}
		x.run("settle barrier")
	}
}

// Two of one bay have marks, patches that wait, and batches of their own.
func TestRowsAreIndependent(t *testing.T) {
	b, w := laid(t, three(), 20)
	first, _ := rows.New(b, three(), w, true)
	second, _ := rows.New(b, three(), w, false)
	third, _ := rows.New(b, three(), nil, true)
	first.Mark(0, true, 1)
	if second.Down(0, 1) || third.Down(0, 1) || !first.Down(0, 1) {
		t.Errorf("one's mark is another one's")
	}
	first.Mark(0, false, 0)
	was, _ := b.Read(0, 1)
	first.Write([]api.Put{{Block: 0, Data: full(5)}})
	for _, r := range []*rows.Rows{second, third} {
		if data, u := r.Read(0); r.Pending() != 0 || r.Sealed() || u != noTrouble() || !bytes.Equal(data, was) {
			t.Errorf("what waits at one is seen by another: %v, %x", u, data)
		}
	}
	second.Settle() // the journal is that of both
	if first.Pending() != 2 || !w.Sure() {
		t.Errorf("pending %d, sure %v", first.Pending(), w.Sure())
	}
	first.Finish()
	for _, r := range []*rows.Rows{first, second, third} {
		if data, u := r.Read(0); u != noTrouble() || !bytes.Equal(data, full(5)) {
			t.Errorf("what is placed: %v, %x", u, data)
		}
	}
	if second.Sealed() || third.Sealed() || !first.Sealed() {
		t.Errorf("one's batch is another one's")
	}
}
