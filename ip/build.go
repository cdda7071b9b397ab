package ip

import (
	"bytes"
	"math"

	"tether/api"
	"tether/octet"
)

// longest is how many bytes a packet of IP has at most, and one of IPv6 behind its header.
const longest = math.MaxUint16

// sixLabels is how many labels there are.
const sixLabels = 1 << 20

// draft is what a packet is to say.
type draft Fields

// Build answers the packet that says f and carries data.
func Build(f Fields, data []byte) ([]byte, api.Errno) {
	d := draft(f)
	right, head, room := d.fourRight, d.fourHead, longest-fourSize
	switch f.Version {
	case four:
	case six:
		right, head, room = d.sixRight, d.sixHead, longest
	default:
		return nil, api.ErrArg
	}
	switch {
	case !d.right() || !right():
		return nil, api.ErrArg
	case len(data) > room:
		return nil, api.ErrSize
	}
	return append(head(len(data)), data...), api.OK
}

// right tells whether what both versions have can be.
func (d draft) right() bool {
	return isByte(d.Class) && isByte(d.Ttl) && isByte(d.Proto) && d.Id >= 0 && d.Id <= math.MaxUint16
}

// fourRight tells whether what IP alone has can be.
func (d draft) fourRight() bool {
	return isAddr(d.Src) && isAddr(d.Dst) && d.Offset >= 0 && d.Offset <= fourOffset*unit && d.Offset%unit == 0
}

// sixRight tells whether what IPv6 alone has can be, where no extension header stands.
func (d draft) sixRight() bool {
	whole := d.Id == 0 && d.Offset == 0 && !d.More && !d.Dont
	return whole && d.Label >= 0 && d.Label < sixLabels && !extends(d.Proto)
}

// fourHead answers the header of IP ahead of that many bytes.
func (d draft) fourHead(size int) []byte {
	place := d.Offset / unit
	if d.Dont {
		place |= fourDont
	}
	if d.More {
		place |= fourMore
	}
	out := written(
		part{four<<4 | fourSize/4, 1}, part{int64(d.Class), 1}, part{int64(fourSize + size), 2},
		part{int64(d.Id), 2}, part{int64(place), 2},
		part{int64(d.Ttl), 1}, part{int64(d.Proto), 1}, part{0, 2}, // the checksum's place
		part{d.Src, 4}, part{d.Dst, 4},
	)
	seal(out)
	return out
}

// sixHead answers the header of IPv6 ahead of that many bytes.
func (d draft) sixHead(size int) []byte {
	out := written(
		part{six<<28 | int64(d.Class)<<20 | int64(d.Label), 4},
		part{int64(size), 2}, part{int64(d.Proto), 1}, part{int64(d.Ttl), 1},
	)
	return append(append(out, d.Src6[:]...), d.Dst6[:]...)
}

// part is a number in a header.
type part struct {
	n    int64
	size int
}

// written answers the bytes of parts, one behind the other.
func written(parts ...part) []byte {
	var out []byte
	for _, p := range parts {
		out, _ = octet.Put(out, uint64(p.n), p.size)
	}
	return out
}

func isByte(n int) bool {
	return n >= 0 && n <= math.MaxUint8
}

func isAddr(n int64) bool {
	return n >= 0 && n <= math.MaxUint32
}

// Data answers what the packet carries that b begins with.
func Data(b []byte) ([]byte, api.Errno) {
	f, e := Parse(b)
	if e != api.OK {
		return nil, e
	}
	return bytes.Clone(b[f.Header:f.Length:f.Length]), api.OK
}

// Trim answers the packet that b begins with.
func Trim(b []byte) ([]byte, api.Errno) {
	f, e := Parse(b)
	if e != api.OK {
		return nil, e
	}
	return bytes.Clone(b[:f.Length:f.Length]), api.OK
}

// Ttl answers the packet that b begins with as it goes on: with one less to live.
func Ttl(b []byte) ([]byte, api.Errno) {
	f, e := Parse(b)
	if e != api.OK {
		return nil, e
	}
	if f.Ttl < 2 {
		return nil, api.ErrArg
	}
	out := bytes.Clone(b[:f.Length:f.Length])
	if f.Version == six {
		out[sixTtlAt]--
		return out, api.OK
	}
	out[fourTtlAt]--
	seal(out[:f.Header:f.Header])
	return out, api.OK
}
