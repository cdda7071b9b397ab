package ccp

import (
	"tether/api"
	"tether/bsd"
	"tether/inflate"
)

// packer is how a sender packs. It has learned what it packs, whether that goes or not.
type packer interface {
	Pack(b []byte) ([]byte, api.Errno)
}

// unpacker is how a receiver unpacks, and learns what came as it is.
type unpacker interface {
	Unpack(b []byte) ([]byte, api.Errno)
	Plain(b []byte) api.Errno
}

// newPacker answers a packer of o's method; nil, if o has none.
func newPacker(o Opts) packer {
	switch Method(o) {
	case ODeflate:
		return inflate.NewPacker(o.Deflate)
	case OBsd:
		return dict{bsd.New(o.Bsd)}
	}
	return nil
}

// newUnpacker answers an unpacker of o's method; nil, if o has none.
func newUnpacker(o Opts) unpacker {
	switch Method(o) {
	case ODeflate:
		return inflate.NewUnpacker(o.Deflate)
	case OBsd:
		return dict{bsd.New(o.Bsd)}
	}
	return nil
}

// right tells whether there is a method with its bits, of each that o has.
func (o Opts) right() bool {
	for _, method := range methods {
		if bits := *o.field(method); bits != none && !can(method, bits) {
			return false
		}
	}
	return true
}

// dict: a dictionary of BSD compress, whose calls are as those of inflate's ends.
type dict struct{ *bsd.Dict }

// Pack answers a packet.
func (d dict) Pack(b []byte) ([]byte, api.Errno) {
	out, _, e := d.Dict.Pack(b)
	return out, e
}

// Plain learns what came as it is.
func (d dict) Plain(b []byte) api.Errno {
	return d.Learn(b)
}
