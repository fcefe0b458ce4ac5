package super_test

import (
	"slices"
	"testing"

	"spindle/api"
	"spindle/super"
)

// scribble writes all over l and behind it.
func scribble[V ~uint8](l []V) {
	l = l[:cap(l)]
	for i := range l {
		l[i] = ^l[i]
	}
}

func encoded(t *testing.T, s api.Super) []byte {
	t.Helper()
	b, e := super.Encode(s)
	if e != api.OK {
		t.Fatalf("Encode(%+v): %v", s, e)
	}
	return b
}

func decoded(t *testing.T, b []byte) api.Super {
	t.Helper()
	s, e := super.Decode(b)
	if e != api.OK {
		t.Fatalf("Decode(% x): %v", b, e)
	}
	return s
}

func TestEncodingIsItsOwners(t *testing.T) {
	for _, s := range some() {
		want := laid(s)
		kept := encoded(t, s)
		scribble(encoded(t, s))
		if !slices.Equal(kept, want) {
			t.Errorf("what came out before: % x; want % x", kept, want)
		}
		wantValid(t, s)
		given := slices.Clone(s.States)
		scribble(s.States)
		if !slices.Equal(kept, want) {
			t.Errorf("what came out, behind a change of what was given: % x; want % x", kept, want)
		}
		copy(s.States, given)
		scribble(kept)
		if !slices.Equal(s.States, given) {
			t.Errorf("what was given, behind a change of what came out: %v; want %v", s.States, given)
		}
	}
}

func TestDecodedIsItsOwners(t *testing.T) {
	for _, want := range some() {
		b := laid(want)
		kept := decoded(t, b)
		scribble(decoded(t, b).States)
		if !same(kept, want) {
			t.Errorf("what came out before: %+v; want %+v", kept, want)
		}
		wantDecoded(t, b, want)
		scribble(b)
		if !same(kept, want) {
			t.Errorf("what came out, behind a change of what was given: %+v; want %+v", kept, want)
		}
		b = laid(want)
		scribble(decoded(t, b).States)
		if !slices.Equal(b, laid(want)) {
			t.Errorf("what was given, behind a change of what came out: % x; want % x", b, laid(want))
		}
	}
}

// What is given is left as it was, whether it is refused or not.
func TestArgumentsAreLeft(t *testing.T) {
	for _, s := range append(some(), api.Super{States: []api.State{4, 0, up}}, with(func(s *api.Super) { s.Safe = 4 })) {
		was := slices.Clone(s.States)
		super.Check(s)
		super.Encode(s)
		super.Akin(s, s)
		super.Akin(s, sample())
		if !slices.Equal(s.States, was) {
			t.Errorf("States are %v; they were %v", s.States, was)
		}
		b := laid(s)
		for _, b := range [][]byte{b, set(b, 0, 0), set(b, 35, 9), summed(set(b, 35, 9)), b[:127]} {
			was := slices.Clone(b)
			super.Decode(b)
			if !slices.Equal(b, was) {
				t.Errorf("bytes are % x; they were % x", b, was)
			}
		}
	}
}

// What lies behind a slice that is given is neither read nor written.
func TestSpareCapacityIsLeft(t *testing.T) {
	for _, s := range some() {
		b := slices.Clone(laid(s))
		want := append(slices.Clone(b), slices.Repeat([]byte{9}, 128)...)
		long := slices.Clone(want)
		wantDecoded(t, long[:128], s)
		if !slices.Equal(long, want) {
			t.Errorf("bytes are % x; they were % x", long, want)
		}
		states := append(slices.Clone(s.States), slices.Repeat([]api.State{rebuild}, 20)...)
		was := slices.Clone(states)
		s.States = states[:len(s.States)]
		wantValid(t, s)
		if !slices.Equal(states, was) {
			t.Errorf("States are %v; they were %v", states, was)
		}
	}
	short := with(func(s *api.Super) { s.States = s.States[:2] })
	wantInvalid(t, short)
}
