package vote_test

import (
	"fmt"
	"math/rand"
	"testing"

	"spindle/api"
	"spindle/super"
)

// All polls of three members with ballots out of a small choice are as the plain one says.
func TestAllOfASmallChoice(t *testing.T) {
	choice := []string{
		"", "3/3 uuu", "4/3 duu lost", "5/4 uuu", "5/4 uuu lost", "5/4 udu lost", "5/5 uuu lost", "5/4 uru", "6/5 uru cursor=2 lost", "6/5 uru cursor=3 lost",
		"6/6 uuu lost", "7/1 ddd", "9/9 uuu lost role=9", "5/4 uuu id=8",
	}
	outcomes := map[api.Errno]int{}
	for i := range len(choice) * len(choice) * len(choice) * len(choice) {
		texts := []string{}
		for rest := i; len(texts) < 4; rest /= len(choice) {
			texts = append(texts, choice[rest%len(choice)])
		}
		_, e := choose(t, poll(t, texts...))
		outcomes[e]++
	}
	for _, e := range []api.Errno{api.OK, api.ErrVoteNone, api.ErrVoteSplit, api.ErrVoteMany, api.ErrVoteJournal} {
		if outcomes[e] == 0 {
			t.Errorf("no poll with %v", e)
		}
	}
}

// anyPoll is a poll of three to sixteen members that mostly agree, with and without the journal.
func anyPoll(t *testing.T, r *rand.Rand) []api.Ballot {
	t.Helper()
	n := 3 + r.Intn(14)
	guide := content(t, 0, fmt.Sprintf("%d/%d %v", 7+r.Intn(3), 5+r.Intn(3), anyStates(r, n)))
	guide.Lost = r.Intn(2) == 0
	if guide.Cursor == 1 {
		guide.Cursor = r.Intn(9)
	}
	l := []api.Ballot{}
	for slot := range n + 1 {
		s := guide
		s.Role = slot
		s.States = statesOf(anyStates(r, n))
		s.Cursor = 0
		for _, state := range s.States {
			if state == rebuild {
				s.Cursor = r.Intn(9)
			}
		}
		if r.Intn(4) > 0 {
			s.States, s.Cursor = append([]api.State{}, guide.States...), guide.Cursor
		}
		l = append(l, api.Ballot{Has: true, Super: s})
	}
	for _, slot := range r.Perm(n + 1)[:r.Intn(4)] {
		disturb(r, &l[slot])
	}
	if r.Intn(2) == 0 {
		l[n] = api.Ballot{}
	}
	return l
}

// anyStates are letters, most of them u.
func anyStates(r *rand.Rand, n int) string {
	states := ups(n)
	if r.Intn(3) == 0 {
		states = lettered(states, r.Intn(n), "dr"[r.Intn(2)])
	}
	if r.Intn(9) == 0 {
		states = lettered(states, r.Intn(n), 'd')
	}
	return states
}

// disturb changes one ballot.
func disturb(r *rand.Rand, b *api.Ballot) {
	switch r.Intn(8) {
	case 0:
		*b = api.Ballot{}
	case 1:
		b.Super.Events = b.Super.Safe
	case 2:
		b.Super.Events, b.Super.Safe = b.Super.Safe-1, b.Super.Safe-1
	case 3:
		b.Super.Events += uint64(r.Intn(3))
	case 4:
		b.Super.Lost = !b.Super.Lost
	case 5:
		b.Super.Safe = 1 + uint64(r.Intn(9))
	case 6:
		if r.Intn(4) == 0 {
			b.Super.ID++
		}
	case 7:
		l := spoils()
		l[r.Intn(len(l))](b)
	}
}

// counting are the slots whose ballots count.
func counting(l []api.Ballot) map[int]bool {
	c := map[int]bool{}
	for slot, b := range l {
		if b.Has && super.Check(b.Super) == api.OK && b.Super.Geometry.Members == len(l)-1 && b.Super.Role == slot {
			c[slot] = true
		}
	}
	return c
}

// A ballot that doesn't count has no effect; a member that is up was up in the guide, and is present; the verdict is a superblock.
func TestPropertyOfThoseThatDoNotCount(t *testing.T) {
	r := rand.New(rand.NewSource(15))
	good := 0
	for range 5000 {
		l := anyPoll(t, r)
		counts := counting(l)
		m := cloned(l)
		for slot := range m {
			if !counts[slot] {
				m[slot] = api.Ballot{}
			}
		}
		wantSame(t, l, m)
		// Nor does it matter in which way it doesn't.
		for slot := range m {
			if !counts[slot] {
				m[slot] = api.Ballot{Has: true, Super: content(t, slot, "9/9 "+ups(len(l)-1)+" id=99")}
				spoils()[r.Intn(len(spoils()))](&m[slot])
			}
		}
		wantSame(t, l, m)
		if v, e := choose(t, l); e == api.OK {
			good++
			if e := super.Check(v.Super); e != api.OK {
				t.Errorf("a verdict that is no superblock: %+v", v)
			}
			wantPresent(t, l, v)
		}
	}
	if good < 1000 {
		t.Errorf("only %d verdicts", good)
	}
}

func wantPresent(t *testing.T, l []api.Ballot, v api.Verdict) {
	t.Helper()
	counts := counting(l)
	n := len(l) - 1
	guide := l[n].Super
	if !counts[n] {
		guide = api.Super{}
		for member := range n {
			if s := l[member].Super; counts[member] && s.Events > guide.Events {
				guide = s
			}
		}
	}
	for member, state := range v.Super.States {
		if guide.States[member] == down && state != down {
			t.Errorf("member %d of %+v was down: %+v", member, l, v)
		}
		if state == up && (guide.States[member] != up || !counts[member]) {
			t.Errorf("member %d of %+v isn't there, or wasn't up: %+v", member, l, v)
		}
	}
}

// With the journal as the guide, a ballot of more Events than the guide's affects nothing but the Events, whatever it says.
func TestPropertyOfGreaterEvents(t *testing.T) {
	r := rand.New(rand.NewSource(16))
	good := 0
	for range 5000 {
		l := anyPoll(t, r)
		n := len(l) - 1
		counts := counting(l)
		slot := r.Intn(n)
		if !counts[n] || !counts[slot] {
			continue
		}
		m := cloned(l)
		m[slot].Super.Events = m[n].Super.Events
		m[slot].Super.Safe = 1
		greater := cloned(m)
		s := &greater[slot].Super
		s.Events += 1 + uint64(r.Intn(3))
		s.Safe = 1 + uint64(r.Intn(int(s.Events)))
		s.Lost = r.Intn(2) == 0
		s.States, s.Cursor = statesOf(lettered(ups(n), r.Intn(n), 'r')), r.Intn(9)
		v, e := choose(t, m)
		w, f := choose(t, greater)
		if e != f {
			t.Errorf("%+v: %v\n%+v: %v", m, e, greater, f)
		}
		if e == api.OK {
			good++
			if v.Super.Events = max(v.Super.Events, s.Events); !equal(v, w) {
				t.Errorf("%+v:\n%+v\n%+v:\n%+v", m, v, greater, w)
			}
		}
	}
	if good < 300 {
		t.Errorf("only %d verdicts", good)
	}
}
