package vote_test

import (
	"fmt"
	"testing"

	"spindle/api"
)

// A member that the guide has as up, down, or one that is rebuilt, and a ballot of no or so many Events: fit from the guide's Safe on.
func TestMembersByStateAndEvents(t *testing.T) {
	for _, n := range []int{3, 4, 16} {
		for slot := range n {
			for _, c := range []struct {
				state       byte
				events      int // 0: no ballot
				then, words string
			}{
				{'u', 0, "d", "changed"}, {'u', 1, "d", "changed"}, {'u', 5, "d", "changed"}, {'u', 6, "u", ""}, {'u', 7, "u", ""}, {'u', 8, "u", ""}, {'u', 9, "u", ""},
				{'d', 0, "d", ""}, {'d', 1, "d", ""}, {'d', 5, "d", ""}, {'d', 6, "d", ""}, {'d', 7, "d", ""}, {'d', 8, "d", ""}, {'d', 9, "d", ""},
				{'r', 0, "d", "changed"}, {'r', 1, "d", "changed"}, {'r', 5, "d", "changed"}, {'r', 6, "r", "cursor=7"}, {'r', 7, "r", "cursor=7"}, {'r', 8, "r", "cursor=7"},
			} {
				states := lettered(ups(n), slot, c.state)
				guide := "8/6 " + states
				if c.state == 'r' {
					guide += " cursor=7"
				}
				l := alike(t, n, guide)
				l[slot] = api.Ballot{}
				if c.events > 0 {
					// What it says of its own is nothing to go by.
					l[slot] = api.Ballot{Has: true, Super: content(t, slot, fmt.Sprintf("%d/1 %v", c.events, ups(n)))}
				}
				wantVerdict(t, l, fmt.Sprintf("%d/6 %v journal %v", max(8, c.events), lettered(states, slot, c.then[0]), c.words))
			}
		}
	}
}

// Safe may be as great as the guide's Events, and its bits are all looked at.
func TestEventsAboutSafe(t *testing.T) {
	for _, safe := range []uint64{2, 3, 255, 256, 65536, 1 << 31, 1 << 32, 1<<32 + 3, 1 << 53, 1<<53 + 1, 1<<62 - 1, 1 << 62} {
		for _, events := range []uint64{safe, min(safe+1, 1<<62), 1 << 62} {
			guide := fmt.Sprintf("%d/%d uuu", events, safe)
			for _, c := range []struct {
				events uint64
				fit    bool
			}{{1, false}, {safe / 2, false}, {safe - 1, false}, {safe, true}, {min(safe+1, events), true}, {events, true}, {1 << 62, true}, {1 << 31, 1<<31 >= safe}, {1<<32 + 1, 1<<32+1 >= safe}} {
				l := poll(t, guide, guide, fmt.Sprintf("%d/1 uuu", c.events), guide)
				most := max(events, c.events)
				if c.fit {
					wantVerdict(t, l, fmt.Sprintf("%d/%d uuu journal", most, safe))
				} else {
					wantVerdict(t, l, fmt.Sprintf("%d/%d uud changed journal", most, safe))
				}
			}
		}
	}
}

// It is the guide's Safe that members are held against, not their own, nor each other's.
func TestSafeIsTheGuides(t *testing.T) {
	wantVerdict(t, poll(t, "5/5 uuu", "4/4 uuu", "3/3 uuu", "5/3 uuu"), "5/3 uuu journal")
	wantVerdict(t, poll(t, "5/1 uuu", "4/1 uuu", "3/1 uuu", "5/4 uuu"), "5/4 uud changed journal")
	wantError(t, poll(t, "5/1 uuu", "4/1 uuu", "3/1 uuu", "5/5 uuu"), api.ErrVoteMany)
	wantVerdict(t, poll(t, "9/9 uuu", "4/1 uuu", "5/2 uuu", "5/3 uuu"), "9/3 uuu journal")
}

// All states of members, and each of them fit or not: at most one may be other than up and fit.
func TestAllStatesAndAllThatAreFit(t *testing.T) {
	for _, n := range []int{3, 4, 5} {
		eachStates(n, func(states string) {
			for fit := range 1 << n {
				l := alike(t, n, "5/4 "+states)
				then, changed, cursor, ups := []byte(states), "", "", 0
				for slot := range n {
					isFit := fit>>slot&1 == 1
					if !isFit {
						l[slot] = api.Ballot{Has: slot%2 == 0, Super: content(t, slot, "3/3 "+states)}
						then[slot] = 'd'
					}
					if !isFit && states[slot] != 'd' {
						changed = " changed"
					}
					if isFit && states[slot] == 'r' {
						cursor = " cursor=1"
					}
					if isFit && states[slot] == 'u' {
						ups++
					}
				}
				if ups < n-1 {
					wantError(t, l, api.ErrVoteMany)
				} else {
					wantVerdict(t, l, "5/4 "+string(then)+" journal"+changed+cursor)
				}
			}
		})
	}
}

// eachStates goes through the States of so many members of which at most one is being rebuilt.
func eachStates(n int, do func(states string)) {
	total := 1
	for range n {
		total *= 3
	}
	for i := range total {
		states, rebuilt := make([]byte, n), 0
		for slot, rest := 0, i; slot < n; slot, rest = slot+1, rest/3 {
			states[slot] = "udr"[rest%3]
			if states[slot] == 'r' {
				rebuilt++
			}
		}
		if rebuilt <= 1 {
			do(string(states))
		}
	}
}

// One member may be away, and no two of them, wherever they are and whatever is the matter with them.
func TestOneAndTwoMissing(t *testing.T) {
	for _, n := range []int{3, 4, 9, 16} {
		for first := range n {
			for _, a := range []byte("udr-o") {
				wantVerdict(t, ailing(t, n, map[int]byte{first: a}), ailment(n, first, a))
				for second := range n {
					for _, b := range []byte("udr-o") {
						if second == first || a == 'u' || b == 'u' || a == 'r' && b == 'r' {
							continue
						}
						wantError(t, ailing(t, n, map[int]byte{first: a, second: b}), api.ErrVoteMany)
					}
				}
			}
		}
	}
}

// ailing is a poll in which members are up, down, being rebuilt, missing (-) or outdated (o).
func ailing(t *testing.T, n int, members map[int]byte) []api.Ballot {
	t.Helper()
	states := ups(n)
	for slot, ill := range members {
		if ill == 'd' || ill == 'r' {
			states = lettered(states, slot, ill)
		}
	}
	l := alike(t, n, "5/4 "+states)
	for slot, ill := range members {
		switch ill {
		case '-':
			l[slot] = api.Ballot{}
		case 'o':
			l[slot].Super.Events, l[slot].Super.Safe = 3, 3
		}
	}
	return l
}

// ailment is the verdict on one such member.
func ailment(n, slot int, ill byte) string {
	switch ill {
	case 'u', 'd', 'r':
		return "5/4 " + lettered(ups(n), slot, ill) + " journal"
	}
	return "5/4 " + lettered(ups(n), slot, 'd') + " journal changed"
}
