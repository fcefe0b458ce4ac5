// Package le is layer 1, the little-endian encoding of fixed-size records:
// see shared/doc/01-le.md.
package le

import (
	"slices"

	"spindle/api"
)

// Packer fills a record of a fixed size, from its beginning.
type Packer struct {
	record []byte // of the full size, so that what was never put is noughts
	at     int
	err    api.Errno
}

// New is an empty packer of a record of so many bytes.
func New(size int) (*Packer, api.Errno) {
	if size < 0 || size > api.MaxPack {
		return nil, api.ErrArg
	}
	return &Packer{record: make([]byte, size)}, api.OK
}

// U8 puts a byte.
func (p *Packer) U8(v uint8) { p.number(uint64(v), 1) }

// U16 puts the 2 bytes of v.
func (p *Packer) U16(v uint16) { p.number(uint64(v), 2) }

// U32 puts the 4 bytes of v.
func (p *Packer) U32(v uint32) { p.number(uint64(v), 4) }

// U64 puts the 8 bytes of v.
func (p *Packer) U64(v uint64) { p.number(v, 8) }

// Raw puts the bytes b.
func (p *Packer) Raw(b []byte) { copy(p.room(len(b)), b) }

// Fill puts the byte v, n times.
func (p *Packer) Fill(n int, v uint8) {
	room := p.room(n)
	for i := range room {
		room[i] = v
	}
}

// At is how many bytes were put.
func (p *Packer) At() int { return p.at }

// Left is how many more there is room for.
func (p *Packer) Left() int { return len(p.record) - p.at }

// Err is the first error, or OK.
func (p *Packer) Err() api.Errno { return p.err }

// Bytes is the record: what was put, and noughts behind it.
func (p *Packer) Bytes() ([]byte, api.Errno) {
	if p.err != api.OK {
		return nil, p.err
	}
	return slices.Clone(p.record), api.OK
}

// number puts the lowest width bytes of v, the least significant one first.
func (p *Packer) number(v uint64, width int) {
	room := p.room(width)
	for i := range room {
		room[i] = byte(v >> (8 * i))
	}
}

// room takes the next n bytes of the record for its caller to set. It gives
// none beside an error, so that a caller that sets each byte it was given
// does nothing then.
func (p *Packer) room(n int) []byte {
	n = max(n, 0)
	if p.err != api.OK {
		return nil
	}
	if n > p.Left() {
		p.err = api.ErrLeFull
		return nil
	}
	start := p.at
	p.at += n
	return p.record[start:p.at]
}

// Reader reads what a Packer put.
type Reader struct {
	data  []byte
	at    int
	err   api.Errno
	errAt int // not always at: a nought that fails may lie farther on
}

// Read is a reader of a copy of b.
func Read(b []byte) *Reader { return &Reader{data: slices.Clone(b)} }

// U8 reads a byte.
func (r *Reader) U8() uint8 { return uint8(r.number(1)) }

// U16 reads a number of 2 bytes.
func (r *Reader) U16() uint16 { return uint16(r.number(2)) }

// U32 reads a number of 4 bytes.
func (r *Reader) U32() uint32 { return uint32(r.number(4)) }

// U64 reads a number of 8 bytes.
func (r *Reader) U64() uint64 { return r.number(8) }

// Raw reads n bytes.
func (r *Reader) Raw(n int) []byte { return slices.Clone(r.next(n)) }

// Noughts skips n bytes that must be 0; if one isn't, it skips none.
func (r *Reader) Noughts(n int) {
	start := r.at
	for i, b := range r.next(n) {
		if b != 0 {
			r.at = start
			r.fail(api.ErrLeNought, start+i)
			return
		}
	}
}

// At is how many bytes were read.
func (r *Reader) At() int { return r.at }

// Left is how many are left.
func (r *Reader) Left() int { return len(r.data) - r.at }

// Err is the first error and its offset, or OK and 0.
func (r *Reader) Err() (api.Errno, int) { return r.err, r.errAt }

// End is the first error and its offset, or else that bytes are left.
func (r *Reader) End() (api.Errno, int) {
	if r.err == api.OK && r.Left() > 0 {
		return api.ErrLeMore, r.at
	}
	return r.Err()
}

// number reads width bytes as one number, the least significant one first.
func (r *Reader) number(width int) uint64 {
	var v uint64
	for i, b := range r.next(width) {
		v |= uint64(b) << (8 * i)
	}
	return v
}

// next takes the next n bytes of the reader's own, so its caller must not
// hand them out. It gives none beside an error.
func (r *Reader) next(n int) []byte {
	n = max(n, 0)
	if r.err != api.OK {
		return nil
	}
	if n > r.Left() {
		r.fail(api.ErrLeShort, r.at)
		return nil
	}
	start := r.at
	r.at += n
	return r.data[start:r.at]
}

func (r *Reader) fail(e api.Errno, at int) { r.err, r.errAt = e, at }
