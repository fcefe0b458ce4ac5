package ring_test

import (
	"testing"

	"spindle/api"
	"spindle/ring"
)

func TestNewOfEachSmallRing(t *testing.T) {
	all(t, wantIs)
}

func TestNewAtTheEdges(t *testing.T) {
	for _, size := range []int{5, 6, 2047, 2048} {
		for _, tail := range []int{0, 1, size - 2, size - 1} {
			for _, used := range []int{0, 1, size - 1, size} {
				wantIs(t, made(t, size, tail, used), plainOf(size, tail, used))
			}
		}
	}
}

func TestNewTakesTheLimits(t *testing.T) {
	if least, most := made(t, api.MinRing, 0, 0), made(t, api.MaxRing, 0, 0); least.Size() != 5 || most.Size() != 2048 {
		t.Errorf("sizes %d and %d", least.Size(), most.Size())
	}
}

func TestNewRefusesSizes(t *testing.T) {
	for _, size := range append([]int{-2048, -5, -1, 0, 1, 2, 3, 4, 2049, 2050, 4096}, extremes()...) {
		wantRefused(t, size, 0, 0)
		wantRefused(t, size, 3, 1)
		wantRefused(t, size, size-1, 0)
		wantRefused(t, size, 0, size)
		wantRefused(t, size, size-1, size)
	}
}

func TestNewRefusesTails(t *testing.T) {
	for _, size := range []int{5, 6, 100, 2047, 2048} {
		for _, tail := range append([]int{-size, -2, -1, size, size + 1, 2 * size}, extremes()...) {
			wantRefused(t, size, tail, 0)
			wantRefused(t, size, tail, 1)
			wantRefused(t, size, tail, size)
		}
	}
}

func TestNewRefusesUsed(t *testing.T) {
	for _, size := range []int{5, 6, 100, 2047, 2048} {
		for _, used := range append([]int{-size, -2, -1, size + 1, size + 2, 2 * size}, extremes()...) {
			wantRefused(t, size, 0, used)
			wantRefused(t, size, 2, used)
			wantRefused(t, size, size-1, used)
		}
	}
}

func TestNewRefusesSeveral(t *testing.T) {
	for _, n := range append([]int{-1, 2049}, extremes()...) {
		wantRefused(t, n, n, 0)
		wantRefused(t, n, 0, n)
		wantRefused(t, 5, n, n)
		wantRefused(t, n, n, n)
	}
}

// The head has gone round as soon as the last place is used.
func TestHead(t *testing.T) {
	for _, x := range []struct{ size, tail, used, head int }{
		{5, 0, 0, 0}, {5, 3, 0, 3}, {5, 4, 0, 4}, // none is used
		{5, 0, 5, 0}, {5, 3, 5, 3}, {5, 4, 5, 4}, // all are
		{5, 0, 4, 4}, {5, 3, 1, 4}, {6, 2, 3, 5}, // the head is the last place
		{5, 1, 4, 0}, {5, 3, 2, 0}, {5, 4, 1, 0}, // it has just gone round
		{5, 3, 3, 1}, {5, 4, 4, 3}, {2048, 2047, 2, 1}, {2048, 2047, 2047, 2046},
	} {
		if r := made(t, x.size, x.tail, x.used); r.Head() != x.head {
			t.Errorf("%+v: Head: %d", x, r.Head())
		}
	}
}

func TestErrorNumbers(t *testing.T) {
	r := made(t, 5, 0, 2)
	_, made := ring.New(0, 0, 0)
	_, taken := r.Take(-1)
	_, full := r.Take(4)
	_, given := r.Give(-1)
	_, less := r.Give(3)
	_, at := r.At(5)
	if got, want := [6]api.Errno{made, taken, full, given, less, at}, [6]api.Errno{1, 1, 90, 1, 91, 3}; got != want {
		t.Errorf("%v; want %v", got, want)
	}
}
