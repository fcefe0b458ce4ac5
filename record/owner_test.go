package record_test

import (
	"slices"
	"testing"

	"spindle/api"
	"spindle/record"
)

// scribble writes all over l and behind it.
func scribble(l []byte) {
	l = l[:cap(l)]
	for i := range l {
		l[i] = ^l[i]
	}
}

// call is one that takes bytes and gives bytes.
type call struct {
	name string
	do   func(b []byte) ([]byte, api.Errno)
}

// calls are those of Escape and Unescape.
func calls() []call {
	return []call{
		{"Escape", func(b []byte) ([]byte, api.Errno) {
			got, _, e := record.Escape(b)
			return got, e
		}},
		{"Unescape, not escaped", func(b []byte) ([]byte, api.Errno) { return record.Unescape(b, false) }},
		{"Unescape, escaped", func(b []byte) ([]byte, api.Errno) { return record.Unescape(b, true) }},
	}
}

func TestEncodingIsItsOwners(t *testing.T) {
	for _, v := range some() {
		want := laid(v)
		kept, _ := encode(v)
		other, _ := encode(v)
		scribble(other)
		if !slices.Equal(kept, want) {
			t.Errorf("what came out before: % x; want % x", kept, want)
		}
		wantValid(t, v)
		scribble(kept)
		wantValid(t, v)
	}
}

// What was decoded has no more to do with the bytes that were given.
func TestDecodedIsItsOwners(t *testing.T) {
	for _, want := range some() {
		b := laid(want)
		kept, _ := decode(kindOf(want), b)
		scribble(b)
		if kept != want {
			t.Errorf("what came out: %+v; want %+v", kept, want)
		}
		wantDecoded(t, laid(want), want)
	}
}

func TestSectorsAreTheirOwners(t *testing.T) {
	for _, given := range append(plain(), marked()...) {
		for _, c := range calls() {
			b := slices.Clone(given)
			want, e := c.do(b)
			if e != api.OK {
				continue
			}
			want = slices.Clone(want)
			kept, _ := c.do(b)
			other, _ := c.do(b)
			scribble(other)
			if !slices.Equal(kept, want) || !slices.Equal(b, given) {
				t.Errorf("%s of % x: what came out before is % x; want % x; what was given is % x", c.name, given, kept, want, b)
			}
			scribble(b)
			if !slices.Equal(kept, want) {
				t.Errorf("%s of % x: what came out, behind a change of what was given, is % x; want % x", c.name, given, kept, want)
			}
			if later, _ := c.do(given); !slices.Equal(later, want) {
				t.Errorf("%s of % x: later % x; want % x", c.name, given, later, want)
			}
		}
	}
}

// given are sectors, and what is none, with what lies behind them.
func given() [][]byte {
	l := append(plain(), marked()...)
	for _, b := range [][]byte{laid(sampleHeader()), laid(greatestCommit()), laid(sampleCheck())} {
		l = append(l, b[:127], b[:0], set(b, 0, 0), set(b, 40, 9), summed(set(b, 40, 9)), append(slices.Clone(b), 0))
	}
	return l
}

// What is given is left as it was, refused or not, and so is what lies behind it; nor does that make a difference, nor come out.
func TestArgumentsAreLeft(t *testing.T) {
	for _, b := range given() {
		for _, behind := range []byte{0, 9, 'S'} {
			was := append(slices.Clone(b), slices.Repeat([]byte{behind}, 128)...)
			long := slices.Clone(was)
			short := long[:len(b)]
			record.Kind(short)
			for _, kind := range kinds {
				alone, e := decode(kind, slices.Clip(slices.Clone(b)))
				if v, f := decode(kind, short); v != alone || f != e {
					t.Errorf("decoding % x as kind %d: %+v, %v; want %+v, %v", short, kind, v, f, alone, e)
				}
			}
			for _, c := range calls() {
				alone, e := c.do(slices.Clip(slices.Clone(b)))
				got, f := c.do(short)
				if !slices.Equal(got, alone) || e != f {
					t.Errorf("%s of % x: % x, %v; want % x, %v", c.name, short, got, f, alone, e)
				}
				if behind != 0 && slices.Contains(got[len(got):cap(got)], behind) {
					t.Errorf("%s of % x: behind it there is % x", c.name, short, got[len(got):cap(got)])
				}
				scribble(got)
			}
			if !slices.Equal(long, was) {
				t.Errorf("bytes are % x; they were % x", long, was)
			}
		}
	}
}
