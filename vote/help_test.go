package vote_test

import (
	"math"
	"reflect"
	"slices"
	"strconv"
	"strings"
	"testing"

	"spindle/api"
	"spindle/vote"
)

const (
	up      = api.StateUp
	down    = api.StateDown
	rebuild = api.StateRebuild
)

// letters are the States as the chapter writes them.
var letters = map[rune]api.State{'u': up, 'd': down, 'r': rebuild}

// statesOf are the States that a text's letters stand for.
func statesOf(text string) []api.State {
	l := []api.State{}
	for _, c := range text {
		l = append(l, letters[c])
	}
	return l
}

// content is the superblock that a text tells: "Events/Safe States", as the chapter writes a ballot, and words behind it that change a field. (Without such a word the Cursor is 1 if a member is being rebuilt.)
func content(t *testing.T, role int, text string) api.Super {
	t.Helper()
	words := strings.Fields(text)
	events, safe, _ := strings.Cut(words[0], "/")
	states := statesOf(words[1])
	s := api.Super{
		ID: 7, Events: number(t, events), Safe: number(t, safe), Role: role, Ring: 10, States: states,
		Geometry: api.Geometry{Members: len(states), Chunk: 2, Stripes: 9},
	}
	if slices.Contains(states, rebuild) {
		s.Cursor = 1
	}
	for _, word := range words[2:] {
		name, value, _ := strings.Cut(word, "=")
		switch name {
		case "lost":
			s.Lost = true
		case "lazy":
			s.Lazy = true
		case "cursor":
			s.Cursor = int(number(t, value))
		case "id":
			s.ID = number(t, value)
		case "ring":
			s.Ring = int(number(t, value))
		case "role":
			s.Role = int(number(t, value))
		case "changed", "journal":
		default:
			t.Fatalf("no such word: %v", word)
		}
	}
	return s
}

func number(t *testing.T, text string) uint64 {
	t.Helper()
	n, err := strconv.ParseUint(text, 10, 64)
	if err != nil {
		t.Fatal(err)
	}
	return n
}

// poll is the ballots of these texts, an empty one for a slot that has none.
func poll(t *testing.T, texts ...string) []api.Ballot {
	t.Helper()
	l := []api.Ballot{}
	for slot, text := range texts {
		b := api.Ballot{}
		if text != "" {
			b = api.Ballot{Has: true, Super: content(t, slot, text)}
		}
		l = append(l, b)
	}
	return l
}

// alike is a poll in which all of so many members, and the journal, say the same.
func alike(t *testing.T, members int, text string) []api.Ballot {
	t.Helper()
	return poll(t, slices.Repeat([]string{text}, members+1)...)
}

// ups are the letters of so many members.
func ups(members int) string { return strings.Repeat("u", members) }

// lettered is a text with another letter at one place.
func lettered(text string, at int, c byte) string {
	b := []byte(text)
	b[at] = c
	return string(b)
}

// with is a copy of the poll in which one ballot is changed.
func with(l []api.Ballot, slot int, change func(b *api.Ballot)) []api.Ballot {
	c := cloned(l)
	change(&c[slot])
	return c
}

// without is a copy of the poll in which these slots have none.
func without(l []api.Ballot, slots ...int) []api.Ballot {
	c := cloned(l)
	for _, slot := range slots {
		c[slot] = api.Ballot{}
	}
	return c
}

func cloned(l []api.Ballot) []api.Ballot {
	c := slices.Clone(l)
	for i := range c {
		c[i].Super.States = slices.Clone(c[i].Super.States)
	}
	return c
}

// choose asks, looks whether the argument is as it was, and holds the answer against the plain one.
func choose(t *testing.T, l []api.Ballot) (api.Verdict, api.Errno) {
	t.Helper()
	before := cloned(l)
	v, e := vote.Choose(l)
	if !reflect.DeepEqual(l, before) {
		t.Fatalf("Choose has changed %+v\nto %+v", before, l)
	}
	if e != api.OK && !reflect.DeepEqual(v, api.Verdict{}) {
		t.Fatalf("%+v beside error %v", v, e)
	}
	if pv, pe := plain(before); e != pe || !equal(v, pv) {
		t.Fatalf("Choose(%+v):\n%+v, %v; plainly\n%+v, %v", l, v, e, pv, pe)
	}
	return v, e
}

// equal holds verdicts against each other, States without any and nil ones being the same.
func equal(v, w api.Verdict) bool {
	same := slices.Equal(v.Super.States, w.Super.States)
	v.Super.States, w.Super.States = nil, nil
	return same && reflect.DeepEqual(v, w)
}

// verdictOf is what a text like that of a ballot says, with the words changed and journal.
func verdictOf(t *testing.T, text string) api.Verdict {
	t.Helper()
	words := strings.Fields(text)
	return api.Verdict{
		Super:   content(t, 0, text),
		Changed: slices.Contains(words, "changed"),
		Journal: slices.Contains(words, "journal"),
	}
}

func wantVerdict(t *testing.T, l []api.Ballot, text string) {
	t.Helper()
	want(t, l, verdictOf(t, text))
}

func want(t *testing.T, l []api.Ballot, w api.Verdict) {
	t.Helper()
	if v, e := choose(t, l); e != api.OK || !equal(v, w) {
		t.Errorf("Choose(%+v):\n%+v, %v; want\n%+v", l, v, e, w)
	}
}

func wantError(t *testing.T, l []api.Ballot, want api.Errno) {
	t.Helper()
	if v, e := choose(t, l); e != want {
		t.Errorf("Choose(%+v): %+v, %v; want %v", l, v, e, want)
	}
}

// wantSame looks whether two polls have the same outcome.
func wantSame(t *testing.T, l, m []api.Ballot) {
	t.Helper()
	v, e := choose(t, l)
	w, f := choose(t, m)
	if e != f || !equal(v, w) {
		t.Errorf("Choose(%+v):\n%+v, %v; and of %+v:\n%+v, %v", l, v, e, m, w, f)
	}
}

// wildInts are as great and as small as an int holds, or nearly so, and some whose lower bytes alone would be a small number.
func wildInts() []int {
	return []int{
		math.MaxInt, math.MaxInt - 1, math.MinInt, math.MinInt + 1, math.MinInt + 3, 1 << 62, 1<<62 + 3, -1 << 62, -1<<62 + 3,
		1<<32 + 3, -1<<32 + 3, 1<<31 - 1, -1 << 31, 1<<16 + 3, -1<<16 + 3, 256 + 3, -256 + 3, -1, -2, -3, -4,
	}
}
