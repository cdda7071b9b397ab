package ccp

import (
	"bytes"

	"tether/api"
	"tether/spell"
)

// neverFrom is the first number of the protocols whose frames always go as they are.
const neverFrom = 0x4000

// Bytes answers a frame's bytes.
func Bytes(f api.Frame) ([]byte, api.Errno) {
	switch {
	case !spell.Proto(f.Proto):
		return nil, api.ErrProto
	case len(f.Info) > api.MaxMru:
		return nil, api.ErrSize
	}
	b := []byte{byte(f.Proto >> 8), byte(f.Proto)}
	if f.Proto < 256 {
		b = b[1:]
	}
	return append(b, f.Info...), api.OK
}

// Frame answers the frame that has those bytes.
func Frame(b []byte) (api.Frame, api.Errno) {
	head := headSize(b)
	if len(b) < head {
		return api.Frame{}, api.ErrShort
	}
	proto := 0
	for _, c := range b[:head] {
		proto = proto<<8 | int(c)
	}
	switch {
	case !spell.Proto(proto):
		return api.Frame{}, api.ErrProto
	case len(b)-head > api.MaxMru:
		return api.Frame{}, api.ErrSize
	}
	return own(api.Frame{Proto: proto, Info: b[head:]}), api.OK
}

// headSize answers how many bytes the number has with which b begins.
func headSize(b []byte) int {
	if len(b) == 0 || b[0]&1 == 1 {
		return 1
	}
	return 2
}

// compressed tells whether a frame of a protocol, with so many bytes, is compressed.
func compressed(proto, size int) bool {
	return proto < neverFrom && proto != api.PComp && size <= api.MaxMru
}

// own answers f with memory of its own.
func own(f api.Frame) api.Frame {
	return api.Frame{Proto: f.Proto, Info: bytes.Clone(f.Info)}
}
