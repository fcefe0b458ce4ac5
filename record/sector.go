package record

import (
	"cmp"

	"spindle/api"
	"spindle/crc"
	"spindle/le"
)

const (
	magic = "SPJL"
	blank = "\x00\x00\x00\x00" // what is logged instead of the magic number

	// summed is how many bytes the checksum is of.
	summed = api.Sector - 4

	kindZeros = 3 // bytes behind the kind
	flagZeros = 3 // bytes behind a header's flags

	escapedFlag uint8 = 1 // the only one of them

	mostPatches = 1023 // of a batch
	mostRows    = api.MaxChunk * api.MaxStripes
)

// encode is the sector of a kind, whose own fields are put by a closure. All of them fit into a sector, so that the packer has no error.
func encode(kind uint8, epoch, seq uint64, fields func(*le.Packer)) []byte {
	p, _ := le.New(api.Sector)
	p.Raw([]byte(magic))
	p.U8(kind)
	p.Fill(kindZeros, 0)
	p.U64(epoch)
	p.U64(seq)
	fields(p)
	p.Fill(summed-p.At(), 0)
	b, _ := p.Bytes()
	p.U32(crc.Sum(b[:summed]))
	b, _ = p.Bytes()
	return b
}

// decode looks whether b is a sector of that kind. The kind's own fields are read by a closure, which answers whether they are valid; the reader finds what is not 0 between the fields and behind them.
func decode(b []byte, kind uint8, fields func(epoch, seq uint64, r *le.Reader) bool) api.Errno {
	if len(b) != api.Sector {
		return api.ErrLength
	}
	if Kind(b) != kind {
		return api.ErrRecordForm
	}
	if le.Read(b[summed:]).U32() != crc.Sum(b[:summed]) {
		return api.ErrRecordSum
	}
	r := le.Read(b[:summed])
	r.Raw(len(magic) + 1)
	r.Noughts(kindZeros)
	epoch := r.U64()
	seq := r.U64()
	valid := fields(epoch, seq, r)
	r.Noughts(r.Left())
	if e, _ := r.End(); e != api.OK || !valid {
		return api.ErrRecordForm
	}
	return api.OK
}

func headerValid(h api.Header) bool {
	return numbersValid(h.Epoch, h.Seq) &&
		within(h.Count, 1, mostPatches) &&
		within(h.Index, 0, h.Count-1) &&
		within(h.Member, 0, api.MaxMembers-1) &&
		within(h.Row, 0, mostRows-1)
}

func commitValid(c api.Commit) bool {
	return numbersValid(c.Epoch, c.Seq) && within(c.Count, 1, mostPatches)
}

func checkValid(c api.Check) bool {
	return numbersValid(c.Epoch, c.Seq) && within(c.Tail, 0, api.MaxRing-1)
}

func numbersValid(epoch, seq uint64) bool {
	return within(epoch, 0, api.MaxCount) && within(seq, 1, api.MaxCount)
}

func within[N cmp.Ordered](n, least, most N) bool { return least <= n && n <= most }

// flagsOf is byte 40 of a header.
func flagsOf(h api.Header) uint8 {
	if h.Escaped {
		return escapedFlag
	}
	return 0
}

// begins says whether that text stands at the beginning of a sector.
func begins(b []byte, text string) bool { return string(b[:len(text)]) == text }
