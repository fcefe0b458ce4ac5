package heal_test

import (
	"testing"

	"spindle/api"
)

// A member that is up has nothing to be rebuilt, whatever the others are.
func TestStepOfAnUpMember(t *testing.T) {
	for _, g := range shapes() {
		x := made(t, g, false)
		for m := range g.Members {
			for s := range g.Stripes {
				x.spend(m, s, without(api.ErrHealIdle), 0, 0, 0)
			}
		}
		x.mark(1, true, 0)
		for _, m := range x.others(1) {
			x.spend(m, 0, without(api.ErrHealIdle), 0, 0, 0)
		}
		x.renew(1, 0)
		x.mark(1, false, 0)
		x.spend(1, 0, without(api.ErrHealIdle), 0, 0, 0)
		x.wantRebuilt(1)
	}
}

// A stripe is rebuilt if the member is down at its first row already: not from a row within it on, nor from one behind it on.
func TestStepByTheRowFromWhichOn(t *testing.T) {
	for _, g := range []api.Geometry{three(), shape(3, 2, 4), shape(5, 3, 2), shape(4, 16, 2)} {
		for _, m := range []int{0, 1, g.Members - 1} {
			for from := -1; from <= rowsOf(g)+1; from++ {
				x := made(t, g, false)
				x.renew(m, max(from, 0))
				if from < 0 {
					x.r.Mark(m, true, from)
				}
				stripes := []int{}
				for s := range g.Stripes {
					if from > s*g.Chunk {
						x.spend(m, s, without(api.ErrHealIdle), 0, 0, 0)
						continue
					}
					x.spend(m, s, noTrouble(), g.Chunk*(g.Members-1), g.Chunk, 1)
					stripes = append(stripes, s)
				}
				x.wantRebuilt(m, stripes...)
			}
		}
	}
}

// How far it is down is asked anew each time.
func TestStepAsMarksChange(t *testing.T) {
	x := made(t, shape(4, 2, 5), false)
	x.renew(2, 0)
	for s := range 5 {
		x.mark(2, true, 2*s+1)
		x.step(2, s, without(api.ErrHealIdle))
		x.mark(2, true, 2*s+2)
		x.step(2, s, without(api.ErrHealIdle))
		x.mark(2, true, 2*s)
		x.step(2, s, noTrouble())
		x.step(2, s, noTrouble()) // once more, as it is still down there
		x.mark(2, false, 0)
		x.step(2, s, without(api.ErrHealIdle))
	}
	x.wantRebuilt(2, 0, 1, 2, 3, 4)
}

// Another member is down in the stripe too, and the one that is to be rebuilt is up within it: that is told, not that it is lost.
func TestIdleAheadOfLost(t *testing.T) {
	x := made(t, shape(4, 2, 5), false)
	x.mark(0, true, 0)
	x.mark(2, true, 3)
	x.spend(2, 1, without(api.ErrHealIdle), 0, 0, 0)
	x.mark(2, true, 2)
	x.spend(2, 1, without(api.ErrPlanLost), 0, 0, 0)
}
