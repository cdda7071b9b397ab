// Package fcs reckons the sums of frames, of 16 and of 32 bits (RFC 1662, appendix C). It is layer 2.
package fcs

import "tether/api"

const (
	Good16 = 0xf0b8
	Good32 = 0xdebb20e3
)

// What a register begins with.
const (
	begin16 = 0xffff
	begin32 = 0xffffffff
)

// How many bytes a sum has.
const (
	size16 = 2
	size32 = 4
)

// The registers behind half a byte, if they were 0 ahead of it.
var (
	half16 = [16]uint16{
		0x0000, 0x1081, 0x2102, 0x3183, 0x4204, 0x5285, 0x6306, 0x7387,
		0x8408, 0x9489, 0xa50a, 0xb58b, 0xc60c, 0xd68d, 0xe70e, 0xf78f,
	}
	half32 = [16]uint32{
		0x00000000, 0x1db71064, 0x3b6e20c8, 0x26d930ac,
		0x76dc4190, 0x6b6b51f4, 0x4db26158, 0x5005713c,
		0xedb88320, 0xf00f9344, 0xd6d6a3e8, 0xcb61b38c,
		0x9b64c2b0, 0x86d3d2d4, 0xa00ae278, 0xbdbdf21c,
	}
)

// On16 answers the register behind b, if it was r ahead of it.
func On16(r uint16, b []byte) uint16 {
	for ; len(b) > 3; b = b[4:] {
		r = next16(next16(next16(next16(r, b[0]), b[1]), b[2]), b[3])
	}
	n := len(b)
	switch n {
	case 3:
		r = next16(r, b[n-3])
		fallthrough
	case 2:
		r = next16(r, b[n-2])
		fallthrough
	case 1:
		r = next16(r, b[n-1])
	}
	return r
}

// On32 answers the register behind b, if it was r ahead of it.
func On32(r uint32, b []byte) uint32 {
	for ; len(b) > 3; b = b[4:] {
		r = next32(next32(next32(next32(r, b[0]), b[1]), b[2]), b[3])
	}
	n := len(b)
	switch n {
	case 3:
		r = next32(r, b[n-3])
		fallthrough
	case 2:
		r = next32(r, b[n-2])
		fallthrough
	case 1:
		r = next32(r, b[n-1])
	}
	return r
}

// next16 puts one byte into the register, its lower half first.
func next16(r uint16, c byte) uint16 {
	r ^= uint16(c)
	r = r>>4 ^ half16[r&15]
	return r>>4 ^ half16[r&15]
}

// next32 puts one byte into the register, its lower half first.
func next32(r uint32, c byte) uint32 {
	r ^= uint32(c)
	r = r>>4 ^ half32[r&15]
	return r>>4 ^ half32[r&15]
}

// Sum16 answers b's sum.
func Sum16(b []byte) uint16 {
	return ^On16(begin16, b)
}

// Sum32 answers b's sum.
func Sum32(b []byte) uint32 {
	return ^On32(begin32, b)
}

// Put16 answers b, and its sum behind it.
func Put16(b []byte) []byte {
	n := Sum16(b)
	return together(b, []byte{byte(n), byte(n >> 8)})
}

// Put32 answers b, and its sum behind it.
func Put32(b []byte) []byte {
	n := Sum32(b)
	return together(b, []byte{byte(n), byte(n >> 8), byte(n >> 16), byte(n >> 24)})
}

// Cut16 answers b without the sum behind it.
func Cut16(b []byte) ([]byte, api.Errno) {
	if len(b) < size16 {
		return nil, api.ErrShort
	}
	if On16(begin16, b) != Good16 {
		return nil, api.ErrFcs
	}
	return together(b[:len(b)-size16], nil), api.OK
}

// Cut32 answers b without the sum behind it.
func Cut32(b []byte) ([]byte, api.Errno) {
	if len(b) < size32 {
		return nil, api.ErrShort
	}
	if On32(begin32, b) != Good32 {
		return nil, api.ErrFcs
	}
	return together(b[:len(b)-size32], nil), api.OK
}

// together copies a, and b behind it, into new memory.
func together(a, b []byte) []byte {
	out := make([]byte, len(a)+len(b))
	n := copy(out, a)
	copy(out[n:], b)
	return out
}
