package scan

import (
	"spindle/api"
	"spindle/crc"
	"spindle/record"
)

// turn is what a sector makes of a batch that is being read.
type turn uint8

const (
	open   turn = iota // it may become complete yet
	sealed             // it is complete
	broken             // it is not, whatever comes
)

// batch is one whose sectors are read one by one.
type batch struct {
	want    api.Commit // the one that seals it: its Count is that of the first header, its Sum that of the headers so far
	read    int        // sectors
	header  api.Header // the last one
	patches []api.Patch
}

// begin is a batch of which nothing has been read. There may be none of that number: no header has one above MaxCount.
func begin(epoch, seq uint64) *batch {
	return &batch{want: api.Commit{Epoch: epoch, Seq: seq}}
}

// take reads the next sector.
func (b *batch) take(sector []byte) turn {
	at := b.read
	b.read++
	switch {
	case at%2 == 1:
		return b.takeData(sector)
	case at > 0 && at == 2*b.want.Count:
		return b.takeCommit(sector)
	}
	return b.takeHeader(sector)
}

func (b *batch) takeHeader(sector []byte) turn {
	h, e := record.DecodeHeader(sector)
	if e != api.OK {
		return broken
	}
	if len(b.patches) == 0 {
		b.want.Count = h.Count
	}
	if h.Epoch != b.want.Epoch || h.Seq != b.want.Seq || h.Count != b.want.Count || h.Index != len(b.patches) {
		return broken
	}
	b.header = h
	b.want.Sum = crc.More(b.want.Sum, sector)
	return open
}

// takeData takes the sector that the last header stands ahead of.
func (b *batch) takeData(sector []byte) turn {
	data, e := record.Unescape(sector, b.header.Escaped)
	if e != api.OK || crc.Sum(sector) != b.header.Sum {
		return broken
	}
	b.patches = append(b.patches, api.Patch{Member: b.header.Member, Row: b.header.Row, Data: data})
	return open
}

func (b *batch) takeCommit(sector []byte) turn {
	if c, e := record.DecodeCommit(sector); e != api.OK || c != b.want {
		return broken
	}
	return sealed
}
