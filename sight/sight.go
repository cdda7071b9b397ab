// Package sight tells what a test of one thing sees of a packet: its protocol, its hosts, its ports, its size.
package sight

import (
	"math/bits"

	"tether/ip"
)

// The directions: which end of a packet is meant.
const (
	Either = iota
	Src
	Dst
)

// Protocols is added to a protocol's number, to tell it from a version's.
const Protocols = 256

// AddrBits is how many bits an address has.
const AddrBits = 32

// The protocols with ports, and the version whose addresses are told.
const (
	tcp  = 6
	udp  = 17
	four = 4
)

// Test is what is looked for.
type Test struct {
	Dir int
	N   int64
	Len int // of a net
}

// Packet is what can be seen of a packet.
type Packet struct {
	fields ip.Fields // of what is no packet all 0: no version, no ports
	size   int
}

// Of answers what can be seen of b, all of which counts in its size.
func Of(b []byte) Packet {
	f, _ := ip.Parse(b)
	return Packet{f, len(b)}
}

// Proto tells whether the packet is of a version, or of a protocol.
func (p Packet) Proto(t Test) bool {
	if p.fields.Version == 0 {
		return false
	}
	return t.N == int64(p.fields.Version) || t.N == Protocols+int64(p.fields.Proto)
}

// Host tells whether the packet is of an address.
func (p Packet) Host(t Test) bool {
	t.Len = AddrBits
	return p.Net(t)
}

// Net tells whether the packet is of an address with the same first bits.
func (p Packet) Net(t Test) bool {
	f := p.fields
	return f.Version == four && t.ends(f.Src, f.Dst, func(addr int64) bool {
		return bits.LeadingZeros32(uint32(addr^t.N)) >= t.Len
	})
}

// Port tells whether the packet has ports, and that one.
func (p Packet) Port(t Test) bool {
	f := p.fields
	has := f.Carries && (f.Proto == tcp || f.Proto == udp)
	return has && t.ends(int64(f.SrcPort), int64(f.DstPort), func(port int64) bool {
		return port == t.N
	})
}

// Less tells whether at most so many bytes are there.
func (p Packet) Less(t Test) bool {
	return int64(p.size) <= t.N
}

// More tells whether at least so many bytes are there.
func (p Packet) More(t Test) bool {
	return int64(p.size) >= t.N
}

// ends tells whether the end that is meant fits.
func (t Test) ends(src, dst int64, fits func(int64) bool) bool {
	switch t.Dir {
	case Src:
		return fits(src)
	case Dst:
		return fits(dst)
	}
	return fits(src) || fits(dst)
}
