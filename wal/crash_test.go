package wal_test

import (
	"math/rand"
	"strconv"
	"strings"
	"testing"

	"spindle/api"
)

// story is a journal with what its asker knows of it.
type story struct {
	*pair
	sealed []api.Txn   // since the checkpoint
	sure   int         // so many of them
	logged []api.Patch // last
	under  string      // the call in which the power has gone; "" if it has not
}

// step makes a call. It says whether there is power yet.
func (s *story) step(name string) bool {
	s.t.Helper()
	switch e := s.attempt(name); {
	case e == api.ErrBayDark:
		s.under = name
	case e != api.OK:
	case name == "seal":
		s.sealed = append(s.sealed, api.Txn{Seq: s.w.Next() - 1, Patches: s.logged})
	case name == "reclaim" || name == "renew":
		s.sealed, s.sure = nil, 0
	case name == "sync":
		s.sure = len(s.sealed)
	default:
		s.logged, s.sure = s.last, len(s.sealed)
	}
	return s.under == ""
}

// play makes calls until they end, or the power does.
func (s *story) play(script []string) {
	s.t.Helper()
	for _, name := range script {
		if !s.step(name) {
			return
		}
	}
}

// passing says whether the power has gone in a Reclaim or a Renew.
func (s *story) passing() bool { return s.under == "reclaim" || s.under == "renew" }

// mayBe says whether these batches may be found now, as the theorem has it; and what the next number is then.
func (s *story) mayBe(found []api.Txn, next uint64) (uint64, bool) {
	lost := len(s.sealed) - len(found)
	switch {
	case lost >= 0 && len(found) >= s.sure && sameTxns(found, s.sealed[:len(found)]):
		return next - uint64(lost), true
	case s.passing() && len(found) == 0:
		return next, true
	case s.under == "seal":
		under := api.Txn{Seq: next, Patches: s.logged}
		return next + 1, sameTxns(found, append(s.sealed[:len(s.sealed):len(s.sealed)], under))
	}
	return 0, false
}

// must are the batches that are found if these writes are kept: the first write in the cache is the commit of the batch that is not sure, or the checkpoint that is under way.
func (s *story) must(pending int, keep []bool) []api.Txn {
	first := pending > 0 && len(keep) > 0 && keep[0]
	switch {
	case s.passing() && first:
		return nil
	case first:
		return s.sealed
	}
	return s.sealed[:s.sure]
}

// crash takes the power away, keeps these writes, and opens the journal, twice.
func (s *story) crash(keep []bool) {
	s.t.Helper()
	next := s.w.Next()
	must := s.must(len(s.b.Pending(s.slot)), keep)
	s.cut(keep...)
	found := s.open(api.OK)
	wantNext, ok := s.mayBe(found, next)
	if !ok || !sameTxns(found, must) {
		s.t.Fatalf("power gone in %q, kept %v: %s; want %s, and no fewer than %d of %s", s.under, keep, told(found), told(must), s.sure, told(s.sealed))
	}
	used := 0
	for _, x := range found {
		used += 2*len(x.Patches) + 1
	}
	s.wantFace(used, wantNext, true)
	if again := s.open(api.OK); !sameTxns(again, found) {
		s.t.Fatalf("%s, and then %s", told(found), told(again))
	}
	s.wantFace(used, wantNext, true)
	s.sealed, s.sure, s.under = found, len(found), ""
}

// choices are which of so many writes may be kept: all there are if the writes are few, and otherwise some of each kind.
func choices(r *rand.Rand, pending int) [][]bool {
	l := [][]bool{}
	if pending <= 6 {
		for bits := range 1 << pending {
			keep := bools(pending, false)
			for i := range keep {
				keep[i] = bits>>i&1 == 1
			}
			l = append(l, keep)
		}
		return l
	}
	for i := range pending {
		one, others, ahead := bools(pending, false), bools(pending, true), bools(i, true)
		one[i], others[i] = true, false
		l = append(l, one, others, ahead)
	}
	for range 10 {
		l = append(l, drawn(r, pending))
	}
	return append(l, bools(pending, true))
}

// drawn are n bools at random.
func drawn(r *rand.Rand, n int) []bool {
	l := bools(n, false)
	for i := range l {
		l[i] = r.Intn(2) == 0
	}
	return l
}

// anything is a script at random; some of it may be refused.
func anything(r *rand.Rand, calls int) []string {
	l := []string{}
	for range calls {
		switch n := r.Intn(12); {
		case n < 3:
			l = append(l, "log"+strconv.Itoa(1+r.Intn(4)))
		case n < 7:
			l = append(l, "log"+strconv.Itoa(1+r.Intn(3)), "seal")
		case n < 9:
			l = append(l, "sync")
		case n < 10:
			l = append(l, "renew")
		default:
			l = append(l, "sync", "reclaim")
		}
	}
	return l
}

// goOn lets a story go on, with the power going at random, and at the end lets it log one more batch for sure.
func (s *story) goOn(r *rand.Rand) {
	s.t.Helper()
	for range 2 {
		s.trip(r.Intn(25))
		s.play(anything(r, 8))
		s.crash(drawn(r, len(s.b.Pending(s.slot))))
	}
	s.play([]string{"reclaim", "log2", "seal", "sync"})
	s.crash(nil)
	if len(s.sealed) != 1 || !samePatches(s.sealed[0].Patches, s.last) {
		s.t.Fatalf("at the end: %s", told(s.sealed))
	}
}

// wantAtomic lets the power fail at each operation of a script, and behind each of its calls, with each choice of writes that are kept.
func wantAtomic(t *testing.T, size, tail int, script string) {
	t.Helper()
	names := strings.Fields(script)
	r := rand.New(rand.NewSource(int64(len(script) + size)))
	crashes := func(play func(s *story)) string {
		t.Helper()
		s := &story{pair: tailed(t, size, 4, 7, tail)}
		play(s)
		under := s.under
		for _, keep := range choices(r, len(s.b.Pending(s.slot))) {
			s := &story{pair: tailed(t, size, 4, 7, tail)}
			play(s)
			s.crash(keep)
			s.goOn(r)
		}
		return under
	}
	for n := 0; ; n++ {
		under := crashes(func(s *story) {
			s.trip(n)
			s.play(names)
		})
		if under == "" {
			break
		}
	}
	for n := range names {
		crashes(func(s *story) { s.play(names[:n]) })
	}
}

func TestAtomicity(t *testing.T) {
	for _, script := range []string{
		"log1 seal log2 seal sync reclaim log2 seal log1 seal sync renew log1 seal log2 seal",
		"log2 seal sync renew log2 seal sync reclaim log1 log2 log1 seal reclaim sync reclaim log2",
		"log1 seal log1 seal log1 seal sync log1 reclaim log3 log1 seal sync",
		"log3 log1 seal log3 seal sync reclaim log3 seal sync renew reclaim renew log1 seal",
	} {
		for _, tail := range []int{0, 6, 9} {
			wantAtomic(t, 11, tail, script)
		}
	}
}

// In the smallest ring, with the tail anywhere: each batch fills it.
func TestAtomicityOfTheSmallestRing(t *testing.T) {
	for tail := range 5 {
		wantAtomic(t, 5, tail, "log2 seal sync reclaim log1 log2 seal sync renew log1 seal sync reclaim log2 seal")
	}
}

// Long stories at random, in which the power fails again and again.
func TestAtomicityAtRandom(t *testing.T) {
	for seed := range 150 {
		r := rand.New(rand.NewSource(int64(seed)))
		size := 5 + r.Intn(20)
		s := &story{pair: tailed(t, size, uint64(r.Intn(9)), 1+uint64(r.Intn(9)), r.Intn(size))}
		for range 25 {
			s.trip(r.Intn(60))
			s.play(anything(r, 12))
			s.crash(drawn(r, len(s.b.Pending(s.slot))))
		}
	}
}

// Wherever a Format is cut, Open finds no batch of the new journal, or no journal; and the next Format succeeds.
func TestFormatThatIsCut(t *testing.T) {
	for n := range 8 {
		for _, keep := range choices(rand.New(rand.NewSource(1)), min(n, 6)) {
			x := bays(t, 0, 5, 7)
			x.trip(n)
			want := api.ErrBayDark
			if n == 7 {
				want = api.OK
			}
			x.format(4, want)
			x.cut(keep...)
			want = api.ErrWalForm
			if n == 7 || len(keep) == 6 && keep[5] {
				want = api.OK
			}
			if l := x.open(want); len(l) > 0 {
				t.Errorf("%s", told(l))
			}
			x.format(4, api.OK)
			x.run("log2 seal sync")
		}
	}
}

// forged is a journal in which a complete batch of this epoch, with the next number, stands at the head.
func forged(t *testing.T, script string, epoch uint64) *pair {
	t.Helper()
	x := formatted(t, 12, 4)
	x.run("log1 seal sync log2 seal sync")
	x.run(script)
	l := x.durable()
	x.lay(l, epoch, x.w.Next())
	x.put(l...)
	return x
}

// After Renew what is of the epoch before is never found, even where it stands complete at the tail, with the number that is due.
func TestRenewLeavesTheEpoch(t *testing.T) {
	for script, epoch := range map[string]uint64{"reclaim": 4, "renew": 5, "reclaim reclaim": 4, "renew renew": 6, "renew reclaim": 5} {
		for _, other := range []uint64{3, 4, 5, 6, 7} {
			x := forged(t, script, other)
			found := 0
			if other == epoch {
				found = 1
			}
			if l := x.open(api.OK); len(l) != found {
				t.Errorf("%s: %s of epoch %d", script, told(l), other)
			}
		}
	}
}
