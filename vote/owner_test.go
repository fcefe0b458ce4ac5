package vote_test

import (
	"reflect"
	"slices"
	"testing"

	"spindle/api"
	"spindle/vote"
)

// polls are some with the journal as the guide, and some without; in some of them a State changes, and in others none does.
func polls(t *testing.T) [][]api.Ballot {
	return [][]api.Ballot{
		alike(t, 3, "5/4 uuu"), alike(t, 16, "5/4 "+ups(16)),
		poll(t, "5/4 uru", "", "5/4 uru", "5/4 uru"),
		poll(t, "5/4 uuu lost", "5/4 uuu lost", "5/4 uuu lost", ""),
		poll(t, "4/4 uuu", "5/4 uuu lost", "", ""),
	}
}

// The States are the caller's own: none of a ballot's, nor of another verdict's.
func TestStatesAreNew(t *testing.T) {
	for _, l := range polls(t) {
		before := cloned(l)
		v, _ := vote.Choose(l)
		again, _ := vote.Choose(l)
		kept := slices.Clone(again.Super.States)
		states := v.Super.States[:cap(v.Super.States)]
		for i := range states {
			states[i] = 99
		}
		if !reflect.DeepEqual(l, before) {
			t.Errorf("a verdict shares States with a ballot: %+v", l)
		}
		if !slices.Equal(again.Super.States, kept) {
			t.Errorf("two verdicts share States: %v", again.Super.States)
		}
		for i := range l {
			clear(l[i].Super.States)
		}
		if !slices.Equal(again.Super.States, kept) {
			t.Errorf("a verdict shares States with a ballot: %v", again.Super.States)
		}
	}
}

// What lies behind the end of a slice is neither read nor written.
func TestSpareCapacity(t *testing.T) {
	for _, l := range polls(t) {
		n := len(l)
		w, e := choose(t, l)
		room := append(cloned(l), alike(t, 3, "9/9 ddd id=3")...)
		for i := range n {
			room[i].Super.States = append(room[i].Super.States, down, 0, 77)[:len(room[i].Super.States)]
		}
		before := cloned(room)
		if v, f := choose(t, room[:n]); f != e || !equal(v, w) {
			t.Errorf("with spare capacity: %+v, %v instead of %+v, %v", v, f, w, e)
		}
		if !reflect.DeepEqual(room, before) {
			t.Errorf("the spare capacity of the ballots has changed: %+v", room)
		}
		for i := range n {
			states := room[i].Super.States
			if rest := states[len(states):]; room[i].Has && !slices.Equal(rest[:3], []api.State{down, 0, 77}) {
				t.Errorf("the spare capacity of States has changed: %v", rest[:3])
			}
		}
	}
}

// All ballots may have the same memory for States.
func TestSharedStates(t *testing.T) {
	for _, slot := range []int{0, 1, 2} {
		l := alike(t, 3, "5/4 uuu")
		for i := range l {
			l[i].Super.States = l[3].Super.States
		}
		wantVerdict(t, without(l, slot), "5/4 "+lettered("uuu", slot, 'd')+" changed journal")
		shared := slices.Clone(l)
		shared[slot] = api.Ballot{}
		if _, e := vote.Choose(shared); e != api.OK || !slices.Equal(l[3].Super.States, statesOf("uuu")) {
			t.Errorf("%v, %v", l[3].Super.States, e)
		}
	}
}

// Nothing is kept from one call for the next, nor may calls at one time meet.
func TestCallsAreIndependent(t *testing.T) {
	l := polls(t)
	done := make(chan bool)
	for range 4 {
		go func() {
			defer func() { done <- true }()
			for i := range 50 {
				b := l[i%len(l)]
				v, e := vote.Choose(b)
				if w, f := plain(b); e != f || !equal(v, w) {
					t.Errorf("%+v, %v instead of %+v, %v", v, e, w, f)
				}
				vote.Choose(b[:3])
			}
		}()
	}
	for range 4 {
		<-done
	}
}
