package super_test

import (
	"testing"

	"spindle/api"
	"spindle/super"
)

// wantAkin asks both ways.
func wantAkin(t *testing.T, a, b api.Super, want bool) {
	t.Helper()
	if there, back := super.Akin(a, b), super.Akin(b, a); there != want || back != want {
		t.Errorf("Akin(%+v, %+v): %v, and the other way %v; want %v", a, b, there, back, want)
	}
}

// foreign are changes that make another array of it.
func foreign() []func(s *api.Super) {
	return []func(s *api.Super){
		func(s *api.Super) { s.ID++ },
		func(s *api.Super) { s.ID ^= 1 << 63 },
		func(s *api.Super) { s.Geometry.Members++ },
		func(s *api.Super) { s.Geometry.Members += 256 },
		func(s *api.Super) { s.Geometry.Chunk++ },
		func(s *api.Super) { s.Geometry.Chunk = -1 },
		func(s *api.Super) { s.Geometry.Stripes++ },
		func(s *api.Super) { s.Geometry.Stripes += 1 << 32 },
		func(s *api.Super) { s.Ring++ },
		func(s *api.Super) { s.Ring += 65536 },
		func(s *api.Super) { s.Lazy = !s.Lazy },
	}
}

// harmless are changes that leave it the same array.
func harmless() []func(s *api.Super) {
	return []func(s *api.Super){
		func(s *api.Super) {},
		func(s *api.Super) { s.Events++ },
		func(s *api.Super) { s.Events = 0 },
		func(s *api.Super) { s.Events = 1<<64 - 1 },
		func(s *api.Super) { s.Safe++ },
		func(s *api.Super) { s.Safe = 1 << 63 },
		func(s *api.Super) { s.Role = 1 },
		func(s *api.Super) { s.Role = -1 },
		func(s *api.Super) { s.Lost = !s.Lost },
		func(s *api.Super) { s.States = []api.State{down, up, rebuild} },
		func(s *api.Super) { s.States = []api.State{up, down} },
		func(s *api.Super) { s.States = []api.State{0, 4, 255, 1} },
		func(s *api.Super) { s.States = nil },
		func(s *api.Super) { s.Cursor++ },
		func(s *api.Super) { s.Cursor = -5 },
	}
}

// bases are superblocks, valid and not.
func bases() []api.Super {
	return []api.Super{
		sample(), least(), greatest(), {},
		{ID: 1<<64 - 1, Events: 1<<64 - 1, Role: -1 << 63, Geometry: api.Geometry{Members: -1, Chunk: 1 << 62, Stripes: -1 << 62}, Ring: 1<<63 - 70000},
		with(func(s *api.Super) { s.Safe = 9 }),
	}
}

func TestAkinWithOneFieldOtherwise(t *testing.T) {
	for _, base := range bases() {
		for _, change := range foreign() {
			other := base
			change(&other)
			wantAkin(t, base, other, false)
		}
		for _, change := range harmless() {
			other := base
			change(&other)
			wantAkin(t, base, other, true)
		}
	}
}

// What isn't asked for doesn't make up for what is.
func TestAkinWithTwoFieldsOtherwise(t *testing.T) {
	for _, base := range bases() {
		for _, first := range foreign() {
			for _, second := range harmless() {
				other := base
				first(&other)
				second(&other)
				wantAkin(t, base, other, false)
			}
		}
		for _, first := range harmless() {
			for _, second := range harmless() {
				one, other := base, base
				first(&one)
				second(&other)
				wantAkin(t, one, other, true)
			}
		}
	}
}

// The numbers of two fields that have changed places are others.
func TestAkinWithFieldsSwapped(t *testing.T) {
	base := api.Super{ID: 5, Geometry: api.Geometry{Members: 6, Chunk: 7, Stripes: 8}, Ring: 9}
	for _, swap := range []func(s *api.Super){
		func(s *api.Super) { s.ID, s.Ring = uint64(s.Ring), int(s.ID) },
		func(s *api.Super) { s.Ring, s.Geometry.Stripes = s.Geometry.Stripes, s.Ring },
		func(s *api.Super) { s.Geometry.Chunk, s.Geometry.Stripes = s.Geometry.Stripes, s.Geometry.Chunk },
		func(s *api.Super) { s.Geometry.Members, s.Geometry.Chunk = s.Geometry.Chunk, s.Geometry.Members },
	} {
		other := base
		swap(&other)
		wantAkin(t, base, other, false)
	}
}

func TestAkinIsTransitive(t *testing.T) {
	l := []api.Super{}
	for _, base := range []api.Super{sample(), {}} {
		for _, change := range append(foreign(), harmless()...) {
			other := base
			change(&other)
			l = append(l, other)
		}
	}
	for _, a := range l {
		for _, b := range l {
			for _, c := range l {
				if super.Akin(a, b) && super.Akin(b, c) && !super.Akin(a, c) {
					t.Errorf("%+v, %+v, %+v", a, b, c)
				}
			}
		}
	}
}
