package ip

import (
	"math"
	"strconv"
	"strings"

	"tether/spell"
)

// Text answers as a line who sends what to whom.
func Text(f Fields) string {
	var src, dst string
	switch f.Version {
	case four:
		src, dst = fourText(f.Src), fourText(f.Dst)
	case six:
		src, dst = sixText(f.Src6), sixText(f.Dst6)
	default:
		return ""
	}
	if f.Carries && (f.Proto == tcp || f.Proto == udp) {
		src, dst = withPort(f.Version, src, f.SrcPort), withPort(f.Version, dst, f.DstPort)
	}
	return src + " > " + dst + " " + called(f.Proto)
}

// fourText answers an address of IP as decimal numbers; of a number that is none, its lowest bits tell one.
func fourText(n int64) string {
	s, _ := spell.AddrText(n & math.MaxUint32)
	return s
}

// sixText answers an address of IPv6 as hexadecimal numbers, none left out.
func sixText(a [16]byte) string {
	var out []string
	for at := 0; at < len(a); at += 2 {
		out = append(out, strconv.FormatInt(int64(num(a[:], at, 2)), 16))
	}
	return strings.Join(out, ":")
}

// withPort answers an address's text with a port behind it.
func withPort(version int, addr string, port int) string {
	if version == six {
		addr = "[" + addr + "]"
	}
	return addr + ":" + strconv.Itoa(port)
}

// called answers what a protocol is called.
func called(proto int) string {
	switch proto {
	case tcp:
		return "tcp"
	case udp:
		return "udp"
	case icmp, icmpSix:
		return "icmp"
	}
	return "proto " + strconv.Itoa(proto)
}
