package vote_test

import (
	"fmt"
	"slices"
	"testing"

	"spindle/api"
)

// The journal's ballot is the guide as soon as it counts, with how many Events, and Lost or not.
func TestJournalIsTheGuide(t *testing.T) {
	for _, lost := range []string{"", " lost"} {
		for _, theirs := range []string{"", " lost"} {
			for events := 4; events <= 12; events++ {
				member := fmt.Sprintf("%d/4 duu%v", events, theirs)
				// It alone says that member 2 is down, up to where, and which announcement is complete.
				l := poll(t, member, member, member, "8/4 uud"+lost)
				wantVerdict(t, l, fmt.Sprintf("%d/4 uud journal", max(8, events)))
				l = poll(t, member, member, member, "8/4 uur cursor=5"+lost)
				wantVerdict(t, l, fmt.Sprintf("%d/4 uur cursor=5 journal", max(8, events)))
				l = poll(t, member, member, "3/3 uuu", "8/4 uur cursor=5"+lost)
				wantVerdict(t, l, fmt.Sprintf("%d/4 uud journal changed", max(8, events)))
			}
			wantError(t, poll(t, "3/3 uuu"+theirs, "3/3 uuu"+theirs, "3/3 uuu"+theirs, "8/4 uuu"+lost), api.ErrVoteMany)
		}
	}
}

// Members that differ are nothing to a journal that counts, whoever of them is Lost.
func TestMembersDifferBesideTheJournal(t *testing.T) {
	wantVerdict(t, poll(t, "9/1 ddd", "9/2 uuu lost", "9/9 udr cursor=8", "5/4 uuu"), "9/4 uuu journal")
	wantVerdict(t, poll(t, "9/1 ddd", "9/2 uuu lost", "7/3 udr cursor=8", "5/4 uuu lost"), "9/4 uuu journal")
	wantVerdict(t, poll(t, "5/1 ddd", "5/2 rdd lost", "5/3 udr cursor=8", "5/4 uru cursor=2 lost"), "5/4 uru cursor=2 journal")
}

// Without the journal all that have the greatest Events must be Lost, and no others.
func TestLostWithoutTheJournal(t *testing.T) {
	for _, n := range []int{3, 4, 16} {
		lost, not := "5/4 "+ups(n)+" lost", "5/4 "+ups(n)
		l := without(alike(t, n, lost), n)
		wantVerdict(t, l, lost)
		wantError(t, without(alike(t, n, not), n), api.ErrVoteJournal)
		for slot := range n {
			wantError(t, with(l, slot, func(b *api.Ballot) { b.Super.Lost = false }), api.ErrVoteJournal)
			wantError(t, with(without(alike(t, n, not), n), slot, func(b *api.Ballot) { b.Super.Lost = true }), api.ErrVoteJournal)
			// One of less Events may say what it likes, as long as it saw the complete announcement.
			wantVerdict(t, with(l, slot, func(b *api.Ballot) { b.Super.Lost, b.Super.Events = false, 4 }), lost)
			wantVerdict(t, with(l, slot, func(b *api.Ballot) { b.Super.Lost, b.Super.Events, b.Super.Safe = false, 3, 3 }), "5/4 "+lettered(ups(n), slot, 'd')+" lost changed")
			// One of more Events is the only one to say it.
			wantError(t, with(l, slot, func(b *api.Ballot) { b.Super.Lost, b.Super.Events = false, 6 }), api.ErrVoteJournal)
			wantVerdict(t, with(without(alike(t, n, not), n), slot, func(b *api.Ballot) { b.Super.Lost, b.Super.Events = true, 6 }), "6/4 "+ups(n)+" lost")
		}
	}
}

// The journal's own ballot says nothing where it doesn't count, neither that it is Lost, nor how many Events there are.
func TestLostJournalThatDoesNotCount(t *testing.T) {
	for _, text := range []string{"9/9 udu", "9/9 uuu lost", "1/1 ddd id=8"} {
		for _, spoil := range spoils() {
			l := poll(t, "5/4 uuu", "5/4 uuu", "5/4 uuu", text)
			spoil(&l[3])
			wantError(t, l, api.ErrVoteJournal)
			l = poll(t, "5/4 uuu lost", "5/4 uuu lost", "5/4 uuu lost", text)
			spoil(&l[3])
			wantVerdict(t, l, "5/4 uuu lost")
		}
	}
}

// others are changes by which two superblocks of the greatest Events differ, though they are of one array.
func others() []func(s *api.Super) {
	return []func(s *api.Super){
		func(s *api.Super) { s.Safe-- },
		func(s *api.Super) { s.Safe++ },
		func(s *api.Super) { s.Safe = 1 },
		func(s *api.Super) { s.Cursor++ },
		func(s *api.Super) { s.Cursor = 0 },
		func(s *api.Super) { s.States[0], s.Cursor = up, 0 },
		func(s *api.Super) { s.States[0], s.Cursor = down, 0 },
		func(s *api.Super) { s.States[len(s.States)-1] = down },
		func(s *api.Super) { slices.Reverse(s.States) },
	}
}

// Two of the greatest Events that differ split the vote, whichever they are; those that have less do not.
func TestMembersThatDiffer(t *testing.T) {
	for _, n := range []int{3, 4, 16} {
		guide := "8/6 " + lettered(ups(n), 0, 'r') + " cursor=4 lost"
		l := without(alike(t, n, guide), n)
		wantVerdict(t, l, guide)
		for slot := range n {
			for _, other := range others() {
				wantError(t, with(l, slot, func(b *api.Ballot) { other(&b.Super) }), api.ErrVoteSplit)
				wantError(t, without(with(l, slot, func(b *api.Ballot) { other(&b.Super) }), (slot+1)%n), api.ErrVoteSplit)
				wantVerdict(t, with(l, slot, func(b *api.Ballot) { other(&b.Super); b.Super.Events = 7 }), guide)
				wantVerdict(t, with(l, slot, func(b *api.Ballot) { other(&b.Super); b.Super.Events, b.Super.Lost = 7, false }), guide)
				// One of more Events is the guide alone.
				m := with(l, slot, func(b *api.Ballot) { b.Super.Events = 9 })
				for rest := range n {
					if rest != slot {
						other(&m[rest].Super)
					}
				}
				wantVerdict(t, m, "9/6 "+lettered(ups(n), 0, 'r')+" cursor=4 lost")
			}
		}
	}
}

// Only the two of all are of the greatest Events, and they differ.
func TestEachTwoThatDiffer(t *testing.T) {
	for _, n := range []int{3, 4, 16} {
		l := without(alike(t, n, "7/6 "+ups(n)+" lost"), n)
		for first := range n {
			for second := range first {
				m := cloned(l)
				m[first].Super.Events, m[second].Super.Events = 8, 8
				wantVerdict(t, m, "8/6 "+ups(n)+" lost")
				m[first].Super.Safe = 7
				wantError(t, m, api.ErrVoteSplit)
				m[second].Super.Safe = 7
				wantVerdict(t, m, "8/7 "+ups(n)+" lost")
				m[first].Super.Lost = false
				wantError(t, m, api.ErrVoteJournal)
				m[first].Super.Lost, m[second].Super.Lost = true, false
				wantError(t, m, api.ErrVoteJournal)
			}
		}
	}
}

// The guide among members is that of the greatest Events, wherever it is: its Safe, its States and its Cursor hold.
func TestGuideAmongMembers(t *testing.T) {
	for _, n := range []int{3, 4, 16} {
		for slot := range n {
			l := without(alike(t, n, "5/4 "+ups(n)), n)
			for _, c := range []struct{ guide, then string }{
				{"6/5 " + ups(n) + " lost", "6/5 " + ups(n) + " lost"},
				{"6/1 " + lettered(ups(n), (slot+1)%n, 'd') + " lost", "6/1 " + lettered(ups(n), (slot+1)%n, 'd') + " lost"},
				{"6/5 " + lettered(ups(n), slot, 'd') + " lost", "6/5 " + lettered(ups(n), slot, 'd') + " lost"},
				{"6/5 " + lettered(ups(n), slot, 'r') + " cursor=3 lost", "6/5 " + lettered(ups(n), slot, 'r') + " cursor=3 lost"},
				{"6/5 " + lettered(ups(n), (slot+2)%n, 'r') + " cursor=3 lost", "6/5 " + lettered(ups(n), (slot+2)%n, 'r') + " cursor=3 lost"},
			} {
				l[slot] = poll(t, slices.Repeat([]string{c.guide}, n)...)[slot]
				wantVerdict(t, l, c.then)
			}
			l[slot] = api.Ballot{Has: true, Super: content(t, slot, "6/6 "+ups(n)+" lost")}
			wantError(t, l, api.ErrVoteMany)
		}
	}
	wantVerdict(t, poll(t, "5/4 uuu lost", "7/6 uuu lost", "6/5 uuu", ""), "7/6 duu lost changed")
	wantVerdict(t, poll(t, "5/4 uuu lost", "7/6 ruu cursor=3 lost", "6/5 uuu", ""), "7/6 duu lost changed")
	wantVerdict(t, poll(t, "", "7/6 ruu cursor=3 lost", "6/5 uuu", ""), "7/6 duu lost changed")
	wantVerdict(t, poll(t, "", "7/6 duu lost", "6/5 uuu", ""), "7/6 duu lost")
}

// The greatest Events are so in all their bits: of two that are alike in the lower ones, one is behind the other.
func TestGreatestEventsInAllBits(t *testing.T) {
	for _, bit := range []int{8, 16, 31, 32, 48, 53, 61} {
		events := 5 + uint64(1)<<bit
		guide := fmt.Sprintf("%d/4 uuu lost", events)
		wantVerdict(t, poll(t, guide, "5/4 uuu", guide, ""), guide)
		wantVerdict(t, poll(t, "5/4 uud lost", guide, guide, ""), guide)
		wantVerdict(t, poll(t, "5/4 uud", "5/5 duu", guide, ""), guide)
		wantError(t, poll(t, guide, guide, fmt.Sprintf("%d/4 uuu", events), ""), api.ErrVoteJournal)
		wantError(t, poll(t, guide, fmt.Sprintf("%d/5 uuu lost", events), guide, ""), api.ErrVoteSplit)
	}
}
