package super

import (
	"slices"

	"spindle/api"
	"spindle/le"
)

const (
	// mark is what the first eight bytes are as a number: SPSB, and 1.
	mark uint64 = 1<<32 | 'B'<<24 | 'S'<<16 | 'P'<<8 | 'S'

	// summed is how many bytes the checksum is of.
	summed = api.Sector - 4
)

// What the flags are made of.
const (
	lazy uint8 = 1 << iota
	lost
)

// content is what stands in a sector. Of the Super the flags have Lazy and Lost, and states has the States.
type content struct {
	api.Super
	mark   uint64
	flags  uint8
	states [api.MaxMembers]api.State
	sum    uint32
}

// contentOf is that of a valid superblock, but for the checksum.
func contentOf(s api.Super) content {
	c := content{Super: s, mark: mark}
	if s.Lazy {
		c.flags |= lazy
	}
	if s.Lost {
		c.flags |= lost
	}
	copy(c.states[:], s.States)
	return c
}

// super undoes contentOf. Of any content it makes a superblock, which need not be valid.
func (c content) super() api.Super {
	s := c.Super
	s.Lazy = c.flags&lazy != 0
	s.Lost = c.flags&lost != 0
	s.States = slices.Clone(c.states[:min(s.Geometry.Members, api.MaxMembers)])
	return s
}

// field is a row of the table: how a part of a content is put into a sector, and how it is read out of one.
type field struct {
	put  func(*le.Packer)
	read func(*le.Reader)
}

// table has all fields of a sector, in their order, and c is where they come from and go to.
func table(c *content) []field {
	return slices.Concat(
		[]field{
			number((*le.Packer).U64, (*le.Reader).U64, &c.mark),
			number((*le.Packer).U64, (*le.Reader).U64, &c.ID),
			number((*le.Packer).U64, (*le.Reader).U64, &c.Events),
			number((*le.Packer).U64, (*le.Reader).U64, &c.Safe),
			number((*le.Packer).U8, (*le.Reader).U8, &c.Role),
			number((*le.Packer).U8, (*le.Reader).U8, &c.Geometry.Members),
			number((*le.Packer).U8, (*le.Reader).U8, &c.Geometry.Chunk),
			number((*le.Packer).U8, (*le.Reader).U8, &c.flags),
			number((*le.Packer).U16, (*le.Reader).U16, &c.Geometry.Stripes),
			number((*le.Packer).U16, (*le.Reader).U16, &c.Ring),
			number((*le.Packer).U16, (*le.Reader).U16, &c.Cursor),
			zeros(2),
		},
		numbers((*le.Packer).U8, (*le.Reader).U8, c.states[:]),
		[]field{
			zeros(64),
			number((*le.Packer).U32, (*le.Reader).U32, &c.sum),
		},
	)
}

// whole are the types of numbers, in a superblock and as le has them.
type whole interface {
	~int | ~uint8 | ~uint16 | ~uint32 | ~uint64
}

// number is the field of a number, which the sector has as a W.
func number[N, W whole](put func(*le.Packer, W), read func(*le.Reader) W, at *N) field {
	return field{
		put:  func(p *le.Packer) { put(p, W(*at)) },
		read: func(r *le.Reader) { *at = N(read(r)) },
	}
}

// numbers are the fields of all elements of at.
func numbers[N, W whole](put func(*le.Packer, W), read func(*le.Reader) W, at []N) []field {
	fields := make([]field, len(at))
	for i := range at {
		fields[i] = number(put, read, &at[i])
	}
	return fields
}

// zeros is n bytes that no content has. What stands there is passed over, as an error of the reader would keep it from what comes behind.
func zeros(n int) field {
	return field{
		put:  func(p *le.Packer) { p.Fill(n, 0) },
		read: func(r *le.Reader) { r.Raw(n) },
	}
}

// pack is the sector of a content. The fields of the table have the size of a sector together, so that the packer has no error.
func pack(c content) []byte {
	p, _ := le.New(api.Sector)
	for _, f := range table(&c) {
		f.put(p)
	}
	b, _ := p.Bytes()
	return b
}

// unpack is the content of any sector.
func unpack(b []byte) content {
	var c content
	r := le.Read(b)
	for _, f := range table(&c) {
		f.read(r)
	}
	return c
}
