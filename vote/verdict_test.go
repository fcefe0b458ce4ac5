package vote_test

import (
	"testing"

	"spindle/api"
)

// particular is a superblock no field of which is like another's, nor like its zero value.
func particular(role int) api.Super {
	return api.Super{
		ID: 1<<63 + 77, Events: 1 << 40, Safe: 1<<40 - 3, Role: role, Ring: 1234, Lazy: true, Lost: true, Cursor: 199,
		Geometry: api.Geometry{Members: 5, Chunk: 11, Stripes: 200}, States: statesOf("uuruu"),
	}
}

func particulars() []api.Ballot {
	l := []api.Ballot{}
	for slot := range 6 {
		l = append(l, api.Ballot{Has: true, Super: particular(slot)})
	}
	return l
}

// Each field is that of the journal, but for Role, and for Lost.
func TestFieldsOfTheJournal(t *testing.T) {
	w := api.Verdict{Super: particular(0), Journal: true}
	w.Super.Lost = false
	want(t, particulars(), w)
	want(t, with(particulars(), 5, func(b *api.Ballot) { b.Super.Lost = false }), w)
	w.Super.Lazy = false
	l := particulars()
	for slot := range l {
		l[slot].Super.Lazy = false
	}
	want(t, l, w)
}

// Each field is that of the members, but for Role.
func TestFieldsOfTheMembers(t *testing.T) {
	w := api.Verdict{Super: particular(0)}
	want(t, without(particulars(), 5), w)
	for slot := range 5 {
		l := without(particulars(), 5)
		for other := range 5 {
			if s := &l[other].Super; other != slot {
				s.Events, s.Safe, s.Cursor, s.Lost = s.Events-1, s.Safe-1, s.Cursor-1, false
			}
		}
		want(t, l, w)
	}
}

// The Role is 0 whatever the guide's is.
func TestRole(t *testing.T) {
	for _, n := range []int{3, 16} {
		for slot := range n {
			l := without(alike(t, n, "5/4 "+ups(n)+" lost"), n)
			l[slot].Super.Events++
			if v, e := choose(t, l); e != api.OK || v.Super.Role != 0 {
				t.Errorf("guide %d of %d: %+v, %v", slot, n, v, e)
			}
		}
		if v, e := choose(t, alike(t, n, "5/4 "+ups(n))); e != api.OK || v.Super.Role != 0 {
			t.Errorf("the journal of %d: %+v, %v", n, v, e)
		}
	}
}

// The Events are the greatest of all that count, also of such as are not fit, or down; Safe isn't touched.
func TestEvents(t *testing.T) {
	wantVerdict(t, poll(t, "5/4 uuu", "6/4 uuu", "9/4 uuu", "5/4 uuu"), "9/4 uuu journal")
	wantVerdict(t, poll(t, "9/9 uuu", "6/4 uuu", "5/4 uuu", "5/4 uuu"), "9/4 uuu journal")
	wantVerdict(t, poll(t, "9/9 uuu", "6/4 uuu", "5/4 uuu", "5/4 duu"), "9/4 duu journal")
	wantVerdict(t, poll(t, "4/4 uuu", "4/4 uuu", "4/4 uuu", "5/4 uuu"), "5/4 uuu journal")
	wantVerdict(t, poll(t, "4/4 uuu", "", "4/4 uuu", "5/4 uuu"), "5/4 udu journal changed")
	wantVerdict(t, poll(t, "9/4 uuu role=1", "4/4 uuu", "4/4 uuu", "5/4 uuu"), "5/4 duu journal changed")
	wantVerdict(t, poll(t, "4611686018427387904/4 uuu", "4/4 uuu", "4/4 uuu", "5/4 uuu"), "4611686018427387904/4 uuu journal")
	wantVerdict(t, poll(t, "4611686018427387905/4 uuu", "4/4 uuu", "4/4 uuu", "5/4 uuu"), "5/4 duu journal changed")
	wantVerdict(t, poll(t, "5/4 uuu lost", "6/5 uuu lost", "5/4 uuu", ""), "6/5 uuu lost")
}

// The Cursor is the guide's as long as somebody is being rebuilt, whatever the members think.
func TestCursor(t *testing.T) {
	for _, cursor := range []string{"0", "1", "5", "8"} {
		for slot := range 3 {
			states := lettered("uuu", slot, 'r')
			guide := "5/4 " + states + " cursor=" + cursor
			wantVerdict(t, alike(t, 3, guide), guide+" journal")
			wantVerdict(t, poll(t, "5/4 uuu", "5/4 udu", "5/4 uru cursor=7", guide), guide+" journal")
			wantVerdict(t, without(alike(t, 3, guide), slot), "5/4 "+lettered("uuu", slot, 'd')+" changed journal")
			wantVerdict(t, without(alike(t, 3, guide+" lost"), 3), guide+" lost")
			wantVerdict(t, without(alike(t, 3, guide+" lost"), slot, 3), "5/4 "+lettered("uuu", slot, 'd')+" changed lost")
			wantError(t, without(alike(t, 3, guide), (slot+1)%3), api.ErrVoteMany)
		}
	}
}

// Changed is about members that the guide doesn't have as down, and about nothing else: neither the journal, nor Events, nor Lost.
func TestChanged(t *testing.T) {
	wantVerdict(t, poll(t, "5/4 duu", "5/4 duu", "5/4 duu", "5/4 duu"), "5/4 duu journal")
	wantVerdict(t, poll(t, "", "5/4 duu", "5/4 duu", "5/4 duu"), "5/4 duu journal")
	wantVerdict(t, poll(t, "3/3 duu", "5/4 duu", "5/4 duu", "5/4 duu"), "5/4 duu journal")
	wantVerdict(t, poll(t, "5/4 uuu", "5/4 uuu", "5/4 uuu", "5/4 duu"), "5/4 duu journal")
	wantVerdict(t, poll(t, "9/4 uuu", "9/4 uuu", "9/4 uuu", "5/4 uuu lost"), "9/4 uuu journal")
	wantVerdict(t, poll(t, "5/4 duu", "5/4 udu", "5/4 uud", "5/4 uuu"), "5/4 uuu journal")
	wantVerdict(t, poll(t, "5/4 duu lost", "5/4 duu lost", "5/4 duu lost", ""), "5/4 duu lost")
	wantVerdict(t, poll(t, "", "5/4 duu lost", "5/4 duu lost", ""), "5/4 duu lost")
	wantVerdict(t, poll(t, "5/4 uuu lost", "5/4 uuu lost", "3/3 uuu lost", ""), "5/4 uud lost changed")
	wantVerdict(t, poll(t, "5/4 uur lost", "5/4 uur lost", "3/3 uuu lost", ""), "5/4 uud lost changed")
	wantVerdict(t, poll(t, "5/4 uur", "5/4 uur", "3/3 uuu", "5/4 uur"), "5/4 uud journal changed")
}
