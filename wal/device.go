package wal

import (
	"spindle/api"
	"spindle/bay"
)

// checkAt is the sector of the checkpoint.
const checkAt = 1

// device is the disk in the journal's slot. Behind an operation that fails it performs none.
type device struct {
	bay    *bay.Bay
	slot   int
	broken api.Errno // by which error; OK if by none
}

// do performs an operation, unless one has failed before.
func (d *device) do(operation func(slot int) api.Errno) {
	if d.broken == api.OK {
		d.broken = operation(d.slot)
	}
}

// then changes what the operations so far were for, unless one has failed.
func (d *device) then(change func()) api.Errno {
	d.do(func(int) api.Errno {
		change()
		return api.OK
	})
	return d.broken
}

func (d *device) read(at int) []byte {
	var data []byte
	d.do(func(slot int) (e api.Errno) {
		data, e = d.bay.Read(slot, at)
		return e
	})
	return data
}

func (d *device) write(at int, data []byte) {
	d.do(func(slot int) api.Errno { return d.bay.Write(slot, at, data) })
}

func (d *device) flush() { d.do(d.bay.Flush) }

// check writes a checkpoint, and makes it durable.
func (d *device) check(sector []byte) {
	d.write(checkAt, sector)
	d.flush()
}
