package vote_test

import (
	"testing"

	"spindle/api"
)

// strangers are changes that make another array of it.
func strangers() []func(s *api.Super) {
	return []func(s *api.Super){
		func(s *api.Super) { s.ID++ },
		func(s *api.Super) { s.ID ^= 1 << 63 },
		func(s *api.Super) { s.Geometry.Chunk++ },
		func(s *api.Super) { s.Geometry.Stripes++ },
		func(s *api.Super) { s.Ring++ },
		func(s *api.Super) { s.Lazy = !s.Lazy },
	}
}

// Any two that count and are not akin split the vote, whatever else they say, whichever they are.
func TestBallotsThatAreNotAkin(t *testing.T) {
	for _, n := range []int{3, 4, 16} {
		for _, text := range []string{"5/4 " + ups(n), "5/4 " + ups(n) + " lost", "5/4 " + lettered(ups(n), 1, 'd')} {
			l := alike(t, n, text)
			for _, strange := range strangers() {
				for slot := range n + 1 {
					for _, events := range []uint64{4, 5, 6} {
						m := with(l, slot, func(b *api.Ballot) { strange(&b.Super); b.Super.Events = events })
						wantError(t, m, api.ErrVoteSplit)
						if slot < n {
							wantError(t, without(m, n), api.ErrVoteSplit)
						}
						// No two but these are there.
						for other := range n + 1 {
							if other != slot {
								pair := make([]api.Ballot, n+1)
								pair[slot], pair[other] = m[slot], m[other]
								wantError(t, pair, api.ErrVoteSplit)
							}
						}
					}
				}
				// All of another array are akin.
				m := cloned(l)
				for slot := range m {
					strange(&m[slot].Super)
				}
				want(t, m, verdictFrom(m[n].Super))
			}
		}
	}
}

// verdictFrom is a journal's superblock as a verdict that has nothing to change.
func verdictFrom(s api.Super) api.Verdict {
	s.Role, s.Lost = 0, false
	return api.Verdict{Super: s, Journal: true}
}

// One that is not akin, but doesn't count, is as good as none.
func TestStrangersThatDoNotCount(t *testing.T) {
	for _, n := range []int{3, 5} {
		for _, text := range []string{"5/4 " + ups(n), "5/4 " + ups(n) + " lost"} {
			l := alike(t, n, text)
			for _, strange := range strangers() {
				for _, spoil := range spoils() {
					for slot := range n + 1 {
						m := with(l, slot, func(b *api.Ballot) { strange(&b.Super); spoil(b) })
						wantSame(t, m, without(l, slot))
					}
				}
			}
		}
	}
}

// Whatever else is wrong, a wrong number of ballots is told first.
func TestArgBeforeAll(t *testing.T) {
	wantError(t, poll(t, "", "", ""), api.ErrArg)
	wantError(t, poll(t, "5/4 uuu id=1", "5/4 uuu id=2", "5/4 uuu id=3"), api.ErrArg)
	wantError(t, poll(t, "5/4 uuu", "5/4 uuu", ""), api.ErrArg)
	wantError(t, poll(t, "5/4 uu", "5/4 uu", "5/4 uu"), api.ErrArg)
	wantError(t, poll(t, "5/4 uuu lost", "5/3 uuu lost", ""), api.ErrArg)
	wantError(t, poll(t, "5/4 udd", "5/4 udd", "5/4 udd"), api.ErrArg)
	wantError(t, make([]api.Ballot, 18), api.ErrArg)
	for _, members := range []int{16, 17} {
		wantError(t, without(alike(t, members, "5/4 "+ups(members)), 0, members)[:3], api.ErrArg)
		l := append(alike(t, members, "5/4 "+lettered(ups(members), 3, 'd')), make([]api.Ballot, 2)...)
		l[4].Super.ID++
		wantError(t, l, api.ErrArg)
	}
}

// Those that don't count may differ as they like: none of them is asked any further.
func TestNoneBeforeTheRest(t *testing.T) {
	l := poll(t, "5/4 udd id=1 role=1", "5/4 uuu id=2 role=2", "6/4 uuu lost role=0", "")
	wantError(t, l, api.ErrVoteNone)
	l = poll(t, "5/4 uuu lost role=1", "5/3 uuu lost role=2", "5/3 duu role=0", "5/4 udd role=2")
	wantError(t, l, api.ErrVoteNone)
}

// Not akin, and: no journal, one not Lost; others that differ; too many missing; all of that.
func TestSplitBeforeTheRest(t *testing.T) {
	for _, l := range [][]api.Ballot{
		poll(t, "5/4 uuu id=2", "5/4 uuu", "5/4 uuu", ""),
		poll(t, "5/4 uuu id=2 lost", "5/4 uuu", "5/4 uuu", ""),
		poll(t, "4/4 uuu id=2", "5/4 uuu", "5/4 uuu", ""),
		poll(t, "5/4 uuu id=2 lost", "5/4 uuu lost", "5/3 uuu lost", ""),
		poll(t, "", "", "5/4 uuu id=2", "5/4 uuu"),
		poll(t, "3/3 uuu id=2", "3/3 uuu", "3/3 uuu", "5/4 uuu"),
		poll(t, "5/4 uuu id=2", "5/4 uuu", "5/4 uuu", "5/4 ddu"),
		poll(t, "5/4 ddd ring=9", "5/3 ddu lazy", "", ""),
	} {
		wantError(t, l, api.ErrVoteSplit)
	}
}

// One that is not Lost, and: others that differ; too many missing; both.
func TestJournalBeforeTheRest(t *testing.T) {
	for _, l := range [][]api.Ballot{
		poll(t, "5/4 uuu", "5/3 uuu", "5/4 uuu", ""),
		poll(t, "5/4 uuu lost", "5/3 uuu lost", "5/4 uuu", ""),
		poll(t, "5/4 uuu", "5/4 uuu lost", "5/4 udu lost", ""),
		poll(t, "5/4 uuu lost", "5/4 uud lost", "5/4 uuu", ""),
		poll(t, "5/4 uuu", "", "", ""),
		poll(t, "5/4 udd", "5/4 udd", "5/4 udd", ""),
		poll(t, "5/4 uuu", "3/3 uuu", "3/3 uuu lost", ""),
		poll(t, "5/4 udd", "5/4 uud lost", "", ""),
		poll(t, "", "5/4 udd lost", "5/4 uud", ""),
	} {
		wantError(t, l, api.ErrVoteJournal)
	}
}

// Two Lost ones that differ, and too many missing.
func TestDifferentBeforeMany(t *testing.T) {
	for _, l := range [][]api.Ballot{
		poll(t, "5/4 uuu lost", "5/3 uuu lost", "3/3 uuu lost", ""),
		poll(t, "5/4 udd lost", "5/3 udd lost", "", ""),
		poll(t, "", "5/4 rdu lost", "5/4 rdu cursor=2 lost", ""),
		poll(t, "5/4 udd lost", "5/4 udd lost", "5/4 ddd lost", ""),
	} {
		wantError(t, l, api.ErrVoteSplit)
	}
}

// Only then it is asked who is there.
func TestManyWithoutTheJournal(t *testing.T) {
	for _, l := range [][]api.Ballot{
		poll(t, "5/4 uuu lost", "", "", ""),
		poll(t, "5/4 uuu lost", "3/3 uuu lost", "3/3 uuu", ""),
		poll(t, "5/4 udd lost", "5/4 udd lost", "5/4 udd lost", ""),
		poll(t, "5/4 rud lost", "5/4 rud lost", "5/4 rud lost", ""),
		poll(t, "5/4 ruu lost", "5/4 ruu lost", "", ""),
		poll(t, "5/4 ruu lost", "5/4 ruu lost", "3/3 uuu", ""),
	} {
		wantError(t, l, api.ErrVoteMany)
	}
	wantVerdict(t, poll(t, "", "5/4 ruu lost", "5/4 ruu lost", ""), "5/4 duu lost changed")
	wantVerdict(t, poll(t, "5/4 uuu lost", "", "5/4 uuu lost", ""), "5/4 udu lost changed")
	wantVerdict(t, poll(t, "5/4 uud lost", "5/4 uud lost", "", ""), "5/4 uud lost")
}
