package ip

import (
	"tether/api"
	"tether/octet"
)

// mostExtensions is how many extension headers a packet has at most.
const mostExtensions = 8

// packet is bytes that begin with a packet.
type packet []byte

// Parse answers the fields of the packet that b begins with.
func Parse(b []byte) (Fields, api.Errno) {
	if len(b) == 0 {
		return Fields{}, api.ErrShort
	}
	says, least := packet(b).four, fourSize
	switch b[0] >> 4 {
	case four:
	case six:
		says, least = packet(b).six, sixSize
	default:
		return Fields{}, api.ErrIp
	}
	if len(b) < least {
		return Fields{}, api.ErrShort
	}
	f, e := says()
	if e != api.OK {
		return Fields{}, e
	}
	return carried(f, b[f.Header:f.Length:f.Length]), api.OK
}

// four answers what the header of IP says.
func (p packet) four() (Fields, api.Errno) {
	r := octet.NewReader(p[:fourSize:fourSize])
	f := Fields{Version: four}
	f.Header = int(r.Num(1)) % 16 * 4
	f.Class = int(r.Num(1))
	f.Length = int(r.Num(2))
	f.Id = int(r.Num(2))
	place := int(r.Num(2))
	f.Dont = place&fourDont != 0
	f.More = place&fourMore != 0
	f.Offset = (place & fourOffset) * unit
	f.Ttl = int(r.Num(1))
	f.Proto = int(r.Num(1))
	r.Num(2) // the checksum is told by all of the header
	f.Src = int64(r.Num(4))
	f.Dst = int64(r.Num(4))
	switch {
	case f.Header < fourSize:
		return f, api.ErrIp
	case len(p) < f.Header:
		return f, api.ErrShort
	case f.Length < f.Header:
		return f, api.ErrIp
	case len(p) < f.Length:
		return f, api.ErrShort
	case Sum(p[:f.Header:f.Header]) != 0:
		return f, api.ErrFcs
	case place&fourHigh != 0:
		return f, api.ErrIp
	}
	return f, api.OK
}

// six answers what the headers of IPv6 say.
func (p packet) six() (Fields, api.Errno) {
	r := octet.NewReader(p[:sixSize:sixSize])
	first := r.Num(4)
	f := Fields{Version: six, Header: sixSize}
	f.Class = int(first>>20) % 256
	f.Label = int(first % sixLabels)
	f.Length = sixSize + int(r.Num(2))
	f.Proto = int(r.Num(1))
	f.Ttl = int(r.Num(1))
	copy(f.Src6[:], r.Take(len(f.Src6)))
	copy(f.Dst6[:], r.Take(len(f.Dst6)))
	if len(p) < f.Length {
		return f, api.ErrShort
	}
	return p[:f.Length:f.Length].extended(f)
}

// extended answers f with what the extension headers say that stand behind f's header.
func (p packet) extended(f Fields) (Fields, api.Errno) {
	met := 0
next:
	if !extends(f.Proto) {
		return f, api.OK
	}
	met++
	behind := f.Header + extension(f.Proto, p[f.Header:])
	if met > mostExtensions || behind > len(p) {
		return f, api.ErrIp
	}
	head := p[f.Header:behind:behind]
	if f.Proto == fragment {
		place := num(head, 2, 2)
		f.More = place&sixMore != 0
		f.Offset = place & sixOffset
		f.Id = num(head, 6, 2)
	}
	f.Proto, f.Header = int(head[0]), behind
	goto next
}

// extends tells whether an extension header has that number.
func extends(proto int) bool {
	switch proto {
	case hops, routes, fragment, ends:
		return true
	}
	return false
}

// extension answers how many bytes the extension header of that number has that b begins with.
func extension(proto int, b []byte) int {
	if proto == fragment {
		return unit
	}
	return unit + num(b, 1, 1)*unit
}

// carried answers f with what the headers say that data begins with, which stands behind f's.
func carried(f Fields, data []byte) Fields {
	if f.Offset != 0 {
		return f
	}
	switch {
	case f.Proto == tcp && len(data) >= tcpSize:
		f.Flags = num(data, flagsAt, 1)
		fallthrough
	case f.Proto == udp && len(data) >= udpSize:
		f.SrcPort, f.DstPort = num(data, 0, 2), num(data, 2, 2)
		f.Carries = true
	case f.Proto == icmpOf(f.Version) && len(data) >= icmpSize:
		f.Type, f.Code = num(data, 0, 1), num(data, 1, 1)
		f.Carries = true
	}
	return f
}

// icmpOf answers which protocol is a version's ICMP.
func icmpOf(version int) int {
	if version == six {
		return icmpSix
	}
	return icmp
}
