package plan

import (
	"bytes"

	"spindle/api"
	"spindle/geom"
)

// blocks are those of one row that are written, by their members.
type blocks map[int][]byte

// patches are what writes the blocks of a row.
func (b blocks) patches(row int) []api.Patch {
	var patches []api.Patch
	for member, data := range b {
		patches = append(patches, api.Patch{Member: member, Row: row, Data: bytes.Clone(data)})
	}
	return sorted(patches)
}

// collected has, by their rows, the blocks of a batch; of equal ones the last stays.
func collected(g api.Geometry, puts []api.Put) (map[int]blocks, api.Errno) {
	places, e := placesOf(g, puts)
	if e != api.OK {
		return nil, e
	}
	rows := map[int]blocks{}
	for i, at := range places {
		if rows[at.Row] == nil {
			rows[at.Row] = blocks{}
		}
		rows[at.Row][at.Member] = puts[i].Data
	}
	return rows, api.OK
}

// placesOf are where the blocks of a batch belong, if it is one.
func placesOf(g api.Geometry, puts []api.Put) ([]api.Place, api.Errno) {
	if e := geom.Check(g); e != api.OK {
		return nil, e
	}
	if len(puts) > api.MaxPuts {
		return nil, api.ErrArg
	}
	var places []api.Place
	for _, p := range puts {
		at, e := geom.Of(g, p.Block)
		if e != api.OK {
			return nil, e
		}
		places = append(places, at)
	}
	for _, p := range puts {
		if len(p.Data) != api.Sector {
			return nil, api.ErrLength
		}
	}
	return places, api.OK
}
