package vote_test

import (
	"slices"
	"testing"

	"spindle/api"
	"spindle/super"
)

// Every number of ballots, also of such as would count if it were right.
func TestNumberOfBallots(t *testing.T) {
	wantError(t, nil, api.ErrArg)
	for _, n := range []int{0, 1, 2, 3, 18, 19, 20, 32, 256 + 4, 65536 + 4} {
		wantError(t, make([]api.Ballot, n), api.ErrArg)
		for _, members := range []int{3, 16, min(max(n-1, 1), 20)} {
			l := []api.Ballot{}
			for slot := range n {
				l = append(l, api.Ballot{Has: true, Super: content(t, slot, "5/4 "+ups(members))})
			}
			wantError(t, l, api.ErrArg)
		}
	}
	for n := 4; n <= 17; n++ {
		wantVerdict(t, alike(t, n-1, "5/4 "+ups(n-1)), "5/4 "+ups(n-1)+" journal")
		wantError(t, make([]api.Ballot, n), api.ErrVoteNone)
	}
}

// spoils are what keeps the ballot of a slot from counting: at first those that are no superblocks, then those of other arrays or slots.
func spoils() []func(b *api.Ballot) {
	l := []func(b *api.Ballot){
		func(b *api.Ballot) { *b = api.Ballot{} },
		func(b *api.Ballot) { b.Has = false },
		func(b *api.Ballot) { b.Super = api.Super{} },
		func(b *api.Ballot) { b.Super.Events = 0 },
		func(b *api.Ballot) { b.Super.Events, b.Super.Safe = 0, 0 },
		func(b *api.Ballot) { b.Super.Events = api.MaxCount + 1 },
		func(b *api.Ballot) { b.Super.Events = 1<<64 - 1 },
		func(b *api.Ballot) { b.Super.Safe = 0 },
		func(b *api.Ballot) { b.Super.Safe = b.Super.Events + 1 },
		func(b *api.Ballot) { b.Super.Geometry.Chunk = 0 },
		func(b *api.Ballot) { b.Super.Geometry.Chunk = 17 },
		func(b *api.Ballot) { b.Super.Geometry.Stripes = 0 },
		func(b *api.Ballot) { b.Super.Geometry.Stripes = 257 },
		func(b *api.Ballot) { b.Super.Ring = 4 },
		func(b *api.Ballot) { b.Super.Ring = 2049 },
		func(b *api.Ballot) { b.Super.Ring += 65536 },
		func(b *api.Ballot) { b.Super.Ring += 1 << 32 },
		func(b *api.Ballot) { b.Super.Ring = -b.Super.Ring },
		func(b *api.Ballot) { b.Super.States = nil },
		func(b *api.Ballot) { b.Super.States = append(b.Super.States, up) },
		func(b *api.Ballot) { b.Super.States = b.Super.States[1:] },
		func(b *api.Ballot) { b.Super.States[0] = 0 },
		func(b *api.Ballot) { b.Super.States[1] = 4 },
		func(b *api.Ballot) { b.Super.States[0], b.Super.States[1] = rebuild, rebuild },
		func(b *api.Ballot) { b.Super.Cursor = 9 },
		func(b *api.Ballot) { b.Super.Cursor = -1 },
		func(b *api.Ballot) { members(b, len(b.Super.States)-1) },
		func(b *api.Ballot) { members(b, len(b.Super.States)+1) },
		func(b *api.Ballot) { b.Super.Geometry.Members-- },
		func(b *api.Ballot) { b.Super.Geometry.Members++ },
		func(b *api.Ballot) { b.Super.Role++ },
		func(b *api.Ballot) { b.Super.Role-- },
		func(b *api.Ballot) { b.Super.Role += 256 },
		func(b *api.Ballot) { b.Super.Role += 1 << 32 },
		func(b *api.Ballot) { b.Super.Geometry.Members += 256 },
		func(b *api.Ballot) { b.Super.Geometry.Members += 1 << 32 },
	}
	for _, n := range wildInts() {
		l = append(l,
			func(b *api.Ballot) { b.Super.Role = foreign(n, b.Super.Role) },
			func(b *api.Ballot) { b.Super.Geometry.Members = foreign(n, b.Super.Geometry.Members) },
			func(b *api.Ballot) { b.Super.Cursor = n },
		)
	}
	return l
}

// foreign is n, or another number if n is the one that would be right.
func foreign(n, right int) int {
	if n == right {
		return n - 1000
	}
	return n
}

// members makes a superblock of an array of so many members, which is valid if there may be so many.
func members(b *api.Ballot, n int) {
	b.Super.Geometry.Members = n
	b.Super.States = slices.Repeat([]api.State{up}, n)
	b.Super.Cursor = 0
}

// Roles of others are no better where they are those of slots.
func TestRolesOfOtherSlots(t *testing.T) {
	for _, n := range []int{3, 4, 16} {
		l := alike(t, n, "5/4 "+ups(n))
		for slot := range n + 1 {
			for role := range n + 1 {
				m := with(l, slot, func(b *api.Ballot) { b.Super.Role = role })
				switch {
				case role == slot:
					wantSame(t, m, l)
				case slot < n:
					wantVerdict(t, m, "5/4 "+lettered(ups(n), slot, 'd')+" changed journal")
				default:
					wantError(t, m, api.ErrVoteJournal)
				}
			}
		}
	}
}

// Superblocks of arrays with one member less or more are valid, but not here.
func TestMembersOfOtherArrays(t *testing.T) {
	for n := 3; n <= 16; n++ {
		for _, other := range []int{n - 1, n + 1, 3, 16} {
			if other == n || other < 3 || other > 16 {
				continue
			}
			for slot := range n + 1 {
				m := with(alike(t, n, "5/4 "+ups(n)+" lost"), slot, func(b *api.Ballot) { members(b, other) })
				if slot <= other && super.Check(m[slot].Super) != api.OK {
					t.Fatal("this was meant to be a valid superblock", m[slot])
				}
				if slot < n {
					wantVerdict(t, m, "5/4 "+lettered(ups(n), slot, 'd')+" changed journal")
				} else {
					wantVerdict(t, m, "5/4 "+ups(n)+" lost")
				}
			}
			// All are of that array.
			l := []api.Ballot{}
			for slot := range n + 1 {
				l = append(l, api.Ballot{Has: true, Super: content(t, slot, "5/4 "+ups(other))})
			}
			wantError(t, l, api.ErrVoteNone)
		}
	}
}

// Whatever keeps the ballot of a member from counting, the member is down.
func TestMembersThatDoNotCount(t *testing.T) {
	for _, n := range []int{3, 5, 16} {
		l := alike(t, n, "5/4 "+ups(n))
		for slot := range n {
			for _, spoil := range spoils() {
				wantVerdict(t, with(l, slot, spoil), "5/4 "+lettered(ups(n), slot, 'd')+" changed journal")
			}
		}
	}
}

// Whatever keeps the ballot of the journal from counting, the members are asked.
func TestJournalThatDoesNotCount(t *testing.T) {
	for _, n := range []int{3, 5, 16} {
		for _, spoil := range spoils() {
			wantError(t, with(alike(t, n, "5/4 "+ups(n)), n, spoil), api.ErrVoteJournal)
			wantVerdict(t, with(alike(t, n, "5/4 "+ups(n)+" lost"), n, spoil), "5/4 "+ups(n)+" lost")
		}
	}
}

// Each of all that don't count, and only one that does.
func TestNoneCounts(t *testing.T) {
	for _, n := range []int{3, 16} {
		for _, spoil := range spoils() {
			l := alike(t, n, "5/4 "+ups(n))
			for slot := range l {
				spoil(&l[slot])
			}
			wantError(t, l, api.ErrVoteNone)
			for slot := range l {
				l[slot] = api.Ballot{Has: true, Super: content(t, slot, "5/4 "+ups(n)+" lost")}
				wantError(t, l, api.ErrVoteMany)
				spoil(&l[slot])
			}
		}
	}
}

// All numbers of a superblock at their limits count.
func TestLimitsCount(t *testing.T) {
	for _, n := range []int{3, 16} {
		for _, change := range []func(s *api.Super){
			func(s *api.Super) { s.ID = 0 },
			func(s *api.Super) { s.ID = 1<<64 - 1 },
			func(s *api.Super) { s.Events, s.Safe = 1, 1 },
			func(s *api.Super) { s.Events, s.Safe = api.MaxCount, 1 },
			func(s *api.Super) { s.Events, s.Safe = api.MaxCount, api.MaxCount },
			func(s *api.Super) { s.Geometry.Chunk, s.Geometry.Stripes = 1, 1 },
			func(s *api.Super) { s.Geometry.Chunk, s.Geometry.Stripes = 16, 256 },
			func(s *api.Super) { s.Ring = 5 },
			func(s *api.Super) { s.Ring = 2048 },
			func(s *api.Super) { s.Lazy = true },
		} {
			l := alike(t, n, "5/4 "+ups(n))
			for slot := range l {
				change(&l[slot].Super)
			}
			w := api.Verdict{Super: l[0].Super, Journal: true}
			want(t, l, w)
			w.Changed, w.Super.States = true, statesOf(lettered(ups(n), 0, 'd'))
			want(t, without(l, 0), w)
		}
	}
}
