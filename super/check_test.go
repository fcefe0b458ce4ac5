package super_test

import (
	"slices"
	"testing"

	"spindle/api"
)

// wantEach sets a field to each value, the one behind the other, and asks whether it is valid.
func wantEach[V any](t *testing.T, set func(s *api.Super, v V), valid, invalid []V) {
	t.Helper()
	for _, v := range valid {
		wantValid(t, with(func(s *api.Super) { set(s, v) }))
	}
	for _, v := range invalid {
		wantInvalid(t, with(func(s *api.Super) { set(s, v) }))
	}
}

func TestSomeAreValid(t *testing.T) {
	for _, s := range some() {
		wantValid(t, s)
	}
}

func TestCheckMembers(t *testing.T) {
	wantEach(t, func(s *api.Super, members int) {
		s.Geometry.Members, s.Role = members, 0
		s.States = slices.Repeat([]api.State{up}, members)
		s.Cursor = 0
	}, []int{3, 4, 15, 16}, []int{0, 1, 2, 17, 18, 259})
	// So many members can have no States of their number.
	wantEach(t, func(s *api.Super, members int) { s.Geometry.Members, s.Role = members, 0 },
		[]int{3}, append([]int{2, 4, 16, 17}, wildInts...))
	wantEach(t, func(s *api.Super, members int) { s.Geometry.Members, s.Role, s.States, s.Cursor = members, 0, nil, 0 },
		nil, append([]int{0, 3, 16}, wildInts...))
}

func TestCheckChunk(t *testing.T) {
	wantEach(t, func(s *api.Super, chunk int) { s.Geometry.Chunk = chunk },
		[]int{1, 2, 15, 16}, append([]int{0, 17, 256, 257}, wildInts...))
}

func TestCheckStripes(t *testing.T) {
	set := func(s *api.Super, stripes int) { s.Geometry.Stripes = stripes }
	wantEach(t, set, []int{2, 3, 255, 256}, append([]int{0, 1, 257, 65536 + 2}, wildInts...))
	// A single stripe is valid where none of it is rebuilt.
	for _, states := range [][]api.State{{up, down, rebuild}, {up, up, down}} {
		wantEach(t, func(s *api.Super, stripes int) { set(s, stripes); s.States, s.Cursor = states, 0 },
			[]int{1, 2, 255, 256}, append([]int{0, 257, 65536 + 1}, wildInts...))
	}
}

func TestCheckEvents(t *testing.T) {
	wantEach(t, func(s *api.Super, events uint64) { s.Events, s.Safe = events, 1 },
		[]uint64{1, 2, 255, 256, 1 << 32, 1<<62 - 1, 1 << 62}, append([]uint64{0}, wildWords...))
	wantEach(t, func(s *api.Super, events uint64) { s.Events, s.Safe = events, events },
		[]uint64{1, 2, 255, 256, 1 << 32, 1<<62 - 1, 1 << 62}, append([]uint64{0}, wildWords...))
	wantEach(t, func(s *api.Super, events uint64) { s.Events, s.Safe = events, 0 },
		nil, append([]uint64{0, 1, 1 << 62}, wildWords...))
}

func TestCheckSafe(t *testing.T) {
	for _, events := range []uint64{1, 2, 3, 256, 1<<32 + 1, 1<<62 - 1, 1 << 62} {
		wantEach(t, func(s *api.Super, safe uint64) { s.Events, s.Safe = events, safe },
			[]uint64{1, (events + 1) / 2, max(events-1, 1), events}, append([]uint64{0, events + 1, 1<<32 + events}, wildWords...))
	}
}

func TestCheckRole(t *testing.T) {
	set := func(s *api.Super, role int) { s.Role = role }
	wantEach(t, set, []int{0, 1, 2, 3}, append([]int{-2, -1, 4, 5, 16, 256}, wildInts...))
	many := func(s *api.Super, role int) { *s = greatest(); s.Role = role }
	wantEach(t, many, []int{0, 1, 15, 16}, append([]int{-1, 17, 18, 256}, wildInts...))
}

func TestCheckRing(t *testing.T) {
	wantEach(t, func(s *api.Super, ring int) { s.Ring = ring },
		[]int{5, 6, 255, 256, 259, 2047, 2048},
		[]int{-1 << 63, -1<<32 + 10, -65526, -10, -1, 0, 1, 4, 2049, 65536 + 10, 1<<32 + 10, 1<<63 - 1})
}

func TestCheckStates(t *testing.T) {
	wantEach(t, func(s *api.Super, states []api.State) { s.States, s.Cursor = states, 0 },
		[][]api.State{
			{up, up, up}, {up, up, down}, {down, up, up}, {down, down, up}, {down, down, down}, {up, down, down},
			{rebuild, up, up}, {up, rebuild, up}, {up, up, rebuild}, {down, rebuild, down},
		},
		[][]api.State{
			nil, {}, {up}, {up, up}, {up, up, up, up}, {up, up, up, 0}, slices.Repeat([]api.State{up}, 16), slices.Repeat([]api.State{up}, 17),
			slices.Repeat([]api.State{up}, 259), {rebuild, up}, {up, down, rebuild, up},
			{0, up, up}, {up, 0, up}, {up, up, 0}, {4, up, up}, {up, 4, up}, {up, up, 4}, {255, up, up}, {up, 255, up}, {up, up, 255}, {up, up, 129},
			{0, 0, 0}, {up, rebuild, 0}, {rebuild, up, 4},
			{rebuild, rebuild, up}, {rebuild, up, rebuild}, {down, rebuild, rebuild}, {rebuild, rebuild, rebuild},
		})
	// Each of sixteen, and each two of them.
	for i := range 16 {
		states := func(s *api.Super, state api.State) {
			*s = greatest()
			s.States, s.Cursor = slices.Repeat([]api.State{up}, 16), 0
			s.States[i] = state
		}
		wantEach(t, states, []api.State{up, down, rebuild}, []api.State{0, 4, 5, 128, 129, 255})
		for k := range i {
			wantInvalid(t, with(func(s *api.Super) { states(s, rebuild); s.States[k] = rebuild }))
			wantInvalid(t, with(func(s *api.Super) { states(s, rebuild); s.States[k] = rebuild; s.Cursor = 1 }))
		}
	}
}

func TestCheckCursor(t *testing.T) {
	for _, stripes := range []int{1, 2, 3, 255, 256} {
		set := func(s *api.Super, cursor int) { s.Geometry.Stripes, s.Cursor = stripes, cursor }
		wantEach(t, set, []int{0, stripes / 2, stripes - 1},
			[]int{-1 << 63, -65536, -256, -1, stripes, stripes + 1, 65536, 65536 + stripes - 1, 1 << 32, 1<<63 - 1})
		for _, states := range [][]api.State{{up, up, up}, {up, down, up}, {down, down, down}} {
			wantEach(t, func(s *api.Super, cursor int) { set(s, cursor); s.States = states },
				[]int{0}, []int{-1 << 63, -1, 1, 2, stripes, stripes + 1, 65536, 1 << 32, 1<<63 - 1})
		}
	}
}

func TestCheckID(t *testing.T) {
	wantEach(t, func(s *api.Super, id uint64) { s.ID = id },
		append([]uint64{0, 1, 7, 255, 256, 1<<32 - 1, 1 << 32, 1 << 62}, wildWords...), nil)
}

func TestCheckFlags(t *testing.T) {
	for _, lazy := range []bool{false, true} {
		wantEach(t, func(s *api.Super, lost bool) { s.Lazy, s.Lost = lazy, lost }, []bool{false, true}, nil)
	}
}

func TestCheckOfNothing(t *testing.T) { wantInvalid(t, api.Super{}) }

func TestCheckExamples(t *testing.T) {
	wantInvalid(t, with(func(s *api.Super) { s.Safe = 4 }))
	wantInvalid(t, with(func(s *api.Super) { s.Cursor = 2 }))
	wantValid(t, with(func(s *api.Super) { s.States, s.Cursor = []api.State{up, down, down}, 0 }))
}
