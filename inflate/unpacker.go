package inflate

import (
	"bytes"

	"tether/api"
	"tether/octet"
)

// Unpacker: the end of a direction that unpacks.
type Unpacker struct {
	past window
	next int // the next packet's number
}

// NewUnpacker answers an end without history, with a window of 2^bits bytes; nil, if there is none.
func NewUnpacker(bits int) *Unpacker {
	if !bitsRight(bits) {
		return nil
	}
	return &Unpacker{past: window{size: 1 << bits}}
}

// Unpack answers the frame of a packet.
func (u *Unpacker) Unpack(b []byte) ([]byte, api.Errno) {
	if u == nil {
		return nil, api.ErrNil
	}
	n, e := octet.Get(b, 0, 2)
	switch {
	case e != api.OK:
		return nil, e
	case int(n) != u.next:
		return nil, api.ErrSeq
	}
	data := append(bytes.Clone(b[2:]), 0x00, 0x00, 0xff, 0xff) // which the packet leaves out
	d := newDecoder(data, &u.past, maxFrame)
	if d.packet() != api.OK || len(d.out) == 0 {
		return nil, api.ErrData
	}
	u.keep(d.out)
	return d.out, api.OK
}

// Plain makes a frame history that came without being packed.
func (u *Unpacker) Plain(frame []byte) api.Errno {
	switch {
	case u == nil:
		return api.ErrNil
	case !frameRight(frame):
		return api.ErrSize
	}
	u.keep(frame)
	return api.OK
}

// keep makes a frame history, and goes on to the next number.
func (u *Unpacker) keep(frame []byte) {
	u.past.take(frame)
	u.next = after(u.next)
}

// Seq answers the next packet's number.
func (u *Unpacker) Seq() int {
	if u == nil {
		return 0
	}
	return u.next
}

// Reset makes the unpacker as new.
func (u *Unpacker) Reset() {
	if u == nil {
		return
	}
	*u = Unpacker{past: window{size: u.past.size}}
}
