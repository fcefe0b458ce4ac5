package vote_test

import (
	"reflect"

	"spindle/api"
	"spindle/super"
)

// plain is the chapter word by word, with nothing of the program's.
func plain(l []api.Ballot) (api.Verdict, api.Errno) {
	if len(l) < 4 || len(l) > 17 {
		return api.Verdict{}, api.ErrArg
	}
	n := len(l) - 1
	count := map[int]api.Super{}
	for i, b := range l {
		if b.Has && super.Check(b.Super) == api.OK && b.Super.Geometry.Members == n && b.Super.Role == i {
			count[i] = b.Super
		}
	}
	if len(count) == 0 {
		return api.Verdict{}, api.ErrVoteNone
	}
	for _, a := range count {
		for _, b := range count {
			if a.ID != b.ID || a.Geometry != b.Geometry || a.Ring != b.Ring || a.Lazy != b.Lazy {
				return api.Verdict{}, api.ErrVoteSplit
			}
		}
	}
	guide, journal := count[n]
	greatest := plainGreatest(count)
	if !journal {
		last := plainLast(count, greatest)
		for _, s := range last {
			if !s.Lost {
				return api.Verdict{}, api.ErrVoteJournal
			}
		}
		for _, s := range last {
			if !reflect.DeepEqual(s, last[0]) {
				return api.Verdict{}, api.ErrVoteSplit
			}
		}
		guide = last[0]
	}
	return plainVerdict(n, count, guide, greatest, journal)
}

func plainGreatest(count map[int]api.Super) uint64 {
	greatest := uint64(0)
	for _, s := range count {
		if s.Events > greatest {
			greatest = s.Events
		}
	}
	return greatest
}

// plainLast are the superblocks of the greatest Events, with Role 0.
func plainLast(count map[int]api.Super, greatest uint64) []api.Super {
	last := []api.Super{}
	for _, s := range count {
		if s.Events == greatest {
			s.Role = 0
			last = append(last, s)
		}
	}
	return last
}

func plainVerdict(n int, count map[int]api.Super, guide api.Super, greatest uint64, journal bool) (api.Verdict, api.Errno) {
	v := api.Verdict{Journal: journal, Super: api.Super{
		ID: guide.ID, Events: greatest, Safe: guide.Safe, Geometry: guide.Geometry, Ring: guide.Ring, Lazy: guide.Lazy,
		Lost: guide.Lost && !journal, Cursor: guide.Cursor,
	}}
	wrong := 0
	for m := 0; m < n; m++ {
		state := guide.States[m]
		s, counts := count[m]
		fit := counts && state != api.StateDown && s.Events >= guide.Safe
		if !fit || state != api.StateUp {
			wrong++
		}
		if !fit && state != api.StateDown {
			v.Changed = true
		}
		if !fit && state == api.StateRebuild {
			v.Super.Cursor = 0
		}
		if !fit {
			state = api.StateDown
		}
		v.Super.States = append(v.Super.States, state)
	}
	if wrong > 1 {
		return api.Verdict{}, api.ErrVoteMany
	}
	return v, api.OK
}
