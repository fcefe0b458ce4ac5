package wal_test

import (
	"slices"
	"strings"
	"testing"

	"spindle/api"
)

// failing are calls, each behind a script that lets it perform operations, with their number.
func failing() map[string][]string {
	return map[string][]string{
		"log1":    {"", "log2", "log1 seal", "log1 seal sync", "log1 seal log2", "log1 seal sync reclaim"},
		"log3":    {"", "log1", "log1 seal", "renew log1 seal sync"},
		"seal":    {"log1", "log3", "log1 seal log2", "log1 log2", "log2 sync"},
		"sync":    {"log1 seal", "log1 seal log1 seal", "renew log2 seal"},
		"reclaim": {"", "log1", "log1 seal sync", "log1 seal log2", "log1 seal sync renew"},
		"renew":   {"", "log1", "log1 seal sync", "log1 seal log2", "log1 seal sync reclaim"},
	}
}

// operationsOf is how many operations a call performs.
func operationsOf(name string) int {
	return map[string]int{"log1": 3, "log2": 5, "log3": 7, "seal": 1, "sync": 1, "reclaim": 2, "renew": 2}[name]
}

// eachFailure does something with a journal whose next call fails at its operation n, in each way, for each of the calls.
func eachFailure(t *testing.T, do func(x *pair, name string, n int, want api.Errno)) {
	t.Helper()
	for name, scripts := range failing() {
		for _, script := range scripts {
			for n := range operationsOf(name) {
				x := formatted(t, 12, 4)
				x.run(script)
				x.trip(n)
				do(x, name, n, api.ErrBayDark)
				x = formatted(t, 12, 4)
				x.run(script)
				x.wear(n)
				do(x, name, n, api.ErrFailed)
			}
			x := formatted(t, 12, 4)
			x.run(script)
			x.fail()
			do(x, name, 0, api.ErrFailed)
			x = formatted(t, 12, 4)
			x.run(script)
			x.pull()
			do(x, name, 0, api.ErrBayEmpty)
		}
	}
}

// The operation that fails is the last one, its error is answered, and nothing of the journal has changed.
func TestCallsThatFail(t *testing.T) {
	eachFailure(t, func(x *pair, name string, n int, want api.Errno) {
		was, before := faceOf(x.w), x.b.Counts()
		x.call(name, want)
		if faceOf(x.w) != was {
			t.Errorf("%s that fails: %v; want %v", name, faceOf(x.w), was)
		}
		spent := x.spent(before)
		counted := n // the power fails ahead of an operation, that then isn't counted
		if want != api.ErrBayDark {
			counted++
		}
		if got := spent.Reads + spent.Writes + spent.Flushes; got != counted {
			t.Errorf("%s that fails behind %d operations: %v", name, n, spent)
		}
	})
}

// repaired lays a good disk with a good journal in, and gives it power.
func (x *pair) repaired() {
	x.t.Helper()
	x.cut()
	x.put(slices.Insert(slices.Repeat([]string{string(full(0))}, 14), 1, string(checkpoint(4, 1, 0)))...)
}

// wantBroken wants each call to answer by which error the journal is broken, without an operation.
func (x *pair) wantBroken(want api.Errno) {
	x.t.Helper()
	was, before := faceOf(x.w), x.b.Counts()
	x.log(1, want)
	x.seal(want)
	x.reclaim(want)
	x.renew(want)
	if x.w.Sure() {
		x.sync(api.OK)
	} else {
		x.sync(want)
	}
	for _, l := range [][]api.Patch{nil, batch(1, 1024), wrong(2, 1, api.Patch{Member: 16, Data: full(1)}), wrong(2, 1, api.Patch{}), batch(1, 6), batch(1, 5)} {
		x.logThese(l, want)
	}
	if x.b.Counts() != before || faceOf(x.w) != was {
		x.t.Errorf("broken by %v: %v operations, %v", want, x.spent(before), faceOf(x.w))
	}
}

// A broken journal stays broken by its first error, also where the power and the disk are well again, or something else fails.
func TestBrokenForGood(t *testing.T) {
	eachFailure(t, func(x *pair, name string, n int, want api.Errno) {
		x.call(name, want)
		x.wantBroken(want)
		if name == "log1" || name == "sync" {
			x.wantBroken(want)
		}
		if x.b.Has(x.slot) {
			x.fail()
			x.wantBroken(want)
		}
		x.cut()
		x.wantBroken(want)
		x.b.Swap(x.slot, 15)
		x.p.disks[x.slot] = plainNew(15)
		x.wantBroken(want)
		x.trip(0)
		x.wantBroken(want)
		if x.b.Dark() {
			t.Errorf("%s: a broken journal used up the trip", name)
		}
	})
}

// Broken comes ahead of all other errors, also of those that hold without an operation.
func TestBrokenComesFirst(t *testing.T) {
	for _, script := range []string{"log1 seal", "log1 seal sync"} { // not sure, and sure
		x := formatted(t, 10, greatest)
		x.run(script)
		x.fail()
		x.log(1, api.ErrFailed)
		x.seal(api.ErrFailed)
		x.reclaim(api.ErrFailed)
		x.renew(api.ErrFailed)
		x.wantBroken(api.ErrFailed)
	}
	x := tailed(t, 10, greatest, greatest, 3)
	x.run("log1 seal")
	x.trip(0)
	x.sync(api.ErrBayDark)
	x.wantBroken(api.ErrBayDark)
	x = tailed(t, 10, 4, greatest, 3)
	x.run("log1 seal sync")
	x.fail()
	x.reclaim(api.ErrRecordForm) // it performs no operation, so it isn't broken yet
	x.renew(api.ErrRecordForm)
	x.log(1, api.ErrRange)
	x.seal(api.ErrArg)
	x.sync(api.OK)
}

// What is refused ahead of its operations neither breaks a journal nor finds out that it would fail.
func TestRefusalsDoNotBreak(t *testing.T) {
	for _, n := range []int{0, 1} {
		x := formatted(t, 10, greatest)
		x.run("log1 seal")
		x.trip(n)
		x.reclaim(api.ErrArg)
		x.renew(api.ErrArg)
		x.seal(api.ErrArg)
		x.logThese(nil, api.ErrArg)
		x.logThese(wrong(2, 1, api.Patch{Row: 4096, Data: full(1)}), api.ErrRange)
		x.logThese(wrong(2, 1, api.Patch{}), api.ErrLength)
		x.logThese(batch(1, 5), api.ErrTooLarge)
		x.logThese(batch(1, 4), api.ErrWalFull)
		want := api.OK
		if n == 0 {
			want = api.ErrBayDark
		}
		x.sync(want)
		if n == 1 {
			x.renew(api.ErrRecordForm)
			x.cut()
			x.run("log1 seal sync reclaim")
		}
	}
}

// Another journal on the same disk is none the wiser; a new one is not broken.
func TestBrokenJournalsAreOpenedAnew(t *testing.T) {
	eachFailure(t, func(x *pair, name string, n int, want api.Errno) {
		x.call(name, want)
		old, plain := x.w, x.v
		if want != api.ErrBayDark {
			x.repaired()
		}
		x.cut()
		x.open(api.OK)
		x.wantFace(x.w.Used(), x.w.Next(), true)
		for _, call := range []string{"log1", "seal", "sync", "reclaim", "log2", "seal", "sync", "renew"} {
			if call == "log1" && x.w.Used() > 9 {
				t.Fatalf("%d places in use", x.w.Used())
			}
			x.call(call, api.OK)
		}
		x.w, x.v = old, plain
		x.wantBroken(want)
	})
}

// A disk that is too small for the ring breaks the journal at the place that it has not.
func TestBrokenByRange(t *testing.T) {
	for missing := 1; missing <= 5; missing++ {
		x := formatted(t, 10, 4)
		x.run("log1 seal sync") // 3 places
		l := x.durable()
		x.put(l[:12-missing]...)
		there := 7 - missing
		if there < 6 {
			x.wantSpent("Log", 0, there+1, 0, func() { x.log(3, api.ErrRange) })
		} else {
			x.wantSpent("Log", 0, 6, 1, func() { x.log(3, api.OK) })
			x.wantSpent("Seal", 0, 1, 0, func() { x.seal(api.ErrRange) })
		}
		x.wantFace(3, 2, true)
		x.wantBroken(api.ErrRange)
	}
}

// Wherever on its way a journal fails, it has done what the plain one does up to there, and stays broken.
func TestFailuresOnTheWay(t *testing.T) {
	script := strings.Fields("log2 seal log1 seal sync reclaim log3 log1 seal log2 seal sync renew log1 seal")
	all := 0
	for _, name := range script {
		all += operationsOf(name)
	}
	for n := range all + 1 {
		for _, want := range []api.Errno{api.ErrBayDark, api.ErrFailed} {
			x := formatted(t, 12, 4)
			if want == api.ErrBayDark {
				x.trip(n)
			} else {
				x.wear(n)
			}
			left := n
			for _, name := range script {
				left -= operationsOf(name)
				if left < 0 {
					x.call(name, want)
					x.wantBroken(want)
					break
				}
				x.call(name, api.OK)
			}
		}
	}
}
