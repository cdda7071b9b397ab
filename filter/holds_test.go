package filter

import (
	"slices"
	"strconv"
	"testing"

	"tether/api"
	"tether/ip"
	"tether/sight"
)

// packet is a packet, and what is known of it.
type packet struct {
	b        []byte
	version  int // 0: it is none
	proto    int
	src, dst int64
	ports    bool
	from, to int
}

// built answers the packet of f with data; ports are the data's first bytes.
func built(f ip.Fields, data []byte) packet {
	b, e := ip.Build(f, data)
	if e != api.OK {
		panic(e)
	}
	p := packet{b: b, version: f.Version, proto: f.Proto, src: f.Src, dst: f.Dst}
	least := map[int]int{6: 20, 17: 8}[f.Proto]
	if least > 0 && len(data) >= least && f.Offset == 0 {
		p.ports = true
		p.from, p.to = int(data[0])<<8|int(data[1]), int(data[2])<<8|int(data[3])
	}
	return p
}

// drawnPacket answers a packet, or some bytes.
func (d *draws) drawnPacket() packet {
	f := ip.Fields{Version: 4, Ttl: 9, Proto: []int{1, 6, 6, 17, 17, 58, 99, 0}[d.next(8)]}
	if d.next(3) > 0 {
		f.Src, f.Dst = 0x0a000000+int64(d.next(2)*256+d.next(3)), 0x0a000000+int64(d.next(2)*256+d.next(3))
		f.Offset, f.More = 8*max(d.next(8)-6, 0), d.next(9) == 0
	} else {
		f.Version = 6
		f.Src6[15], f.Dst6[15] = byte(d.next(3)), byte(d.next(3))
		if f.Proto == 0 {
			f.Proto = 59
		}
	}
	data := make([]byte, []int{0, 7, 8, 19, 20, 30}[d.next(6)])
	for i := range data {
		data[i] = byte(d.next(256))
	}
	if len(data) > 3 {
		from, to := d.next(4)*80, d.next(4)*80
		copy(data, []byte{0, byte(from), 0, byte(to)})
	}
	p := built(f, data)
	switch d.next(6) {
	case 0: // bytes behind the packet
		p.b = append(p.b, make([]byte, d.next(20))...)
	case 1: // no packet any more
		b := p.b
		switch d.next(3) {
		case 0:
			b = b[:d.next(len(b))]
		case 1:
			b[0] ^= 0x10 // 5, 7
		case 2:
			b = nil
		}
		p = packet{b: b}
	}
	return p
}

// told answers by the model whether the node i of l tells p.
func (p packet) told(l []Node, i int) bool {
	n := l[i]
	ends := func(src, dst bool) bool {
		return n.Dir != Dst && src || n.Dir != Src && dst
	}
	same := func(addr int64) bool {
		for bit := range n.Len {
			if addr>>(31-bit)&1 != n.N>>(31-bit)&1 {
				return false
			}
		}
		return true
	}
	switch n.Kind {
	case Proto:
		return p.version != 0 && (n.N == int64(p.version) || n.N == 256+int64(p.proto))
	case Host:
		return p.version == 4 && ends(p.src == n.N, p.dst == n.N)
	case Net:
		return p.version == 4 && ends(same(p.src), same(p.dst))
	case Port:
		return p.ports && ends(int64(p.from) == n.N, int64(p.to) == n.N)
	case Less:
		return len(p.b) <= int(n.N)
	case More:
		return len(p.b) >= int(n.N)
	case Not:
		return !p.told(l, n.A)
	case And:
		return p.told(l, n.A) && p.told(l, n.B)
	case Or:
		return p.told(l, n.A) || p.told(l, n.B)
	}
	return p.told(l, n.A)
}

// holdsOf answers whether the expression s tells b.
func holdsOf(t *testing.T, s string, b []byte) bool {
	t.Helper()
	l, e, at := Parse(s)
	if e != api.OK {
		t.Fatalf("%q: %d %d", s, e, at)
	}
	list, bytes := slices.Clone(l), slices.Clone(b)
	held, e := Holds(l, b)
	if e != api.OK || !slices.Equal(l, list) || !slices.Equal(b, bytes) {
		t.Fatalf("%q: %d", s, e)
	}
	return held
}

// tells checks whether each expression tells b.
func tells(t *testing.T, b []byte, want bool, expressions ...string) {
	t.Helper()
	for _, s := range expressions {
		if holdsOf(t, s, b) != want {
			t.Errorf("%q of %x: %v", s, b, !want)
		}
	}
}

// P23.3

func TestDirectionsAreThoseThatAreSeen(t *testing.T) {
	if Either != sight.Either || Src != sight.Src || Dst != sight.Dst {
		t.Error(sight.Either, sight.Src, sight.Dst)
	}
}

func TestHoldsOfUdp(t *testing.T) {
	p := built(ip.Fields{Version: 4, Ttl: 64, Proto: 17, Src: 0x0a000001, Dst: 0x0a000002}, []byte{0, 5, 0, 7, 0, 8, 0, 0})
	tells(t, p.b, true, "ip", "udp", "proto 17", "not ip6", "not tcp", "host 10.0.0.1", "host 10.0.0.2",
		"src host 10.0.0.1", "dst host 10.0.0.2", "port 5", "port 7", "src port 5", "dst port 7",
		"net 10.0.0.0/8", "net 10.0.0.3/31", "src net 10.0.0.0/31", "dst net 10.0.0.3/31", "net 11.0.0.0/7", "net 99.0.0.0/0",
		"dst net 10.0.0.2/32", "less 28", "less 29", "less 65535", "greater 28", "greater 27", "greater 0",
		"udp and port 5", "tcp or udp", "not (tcp or icmp)")
	tells(t, p.b, false, "ip6", "tcp", "icmp", "proto 0", "proto 4", "proto 16", "proto 18", "host 10.0.0.3", "host 0.0.0.0",
		"src host 10.0.0.2", "dst host 10.0.0.1", "port 6", "port 0", "src port 7", "dst port 5",
		"net 10.0.0.4/30", "src net 10.0.0.2/31", "dst net 10.0.0.0/31", "net 138.0.0.0/1", "src net 10.0.0.2/32",
		"less 27", "less 0", "greater 29", "greater 65535", "udp and port 6", "tcp or icmp", "not (tcp or udp)")
}

func TestHoldsOfOthers(t *testing.T) {
	data := []byte{0, 80, 1, 187, 0, 0, 0, 0, 0, 0, 0, 0, 0, 0, 0, 0, 0, 0, 0, 0}
	tcp := built(ip.Fields{Version: 4, Proto: 6}, data)
	tells(t, tcp.b, true, "tcp", "port 80", "port 443", "src port 80", "dst port 443", "host 0.0.0.0")
	short := built(ip.Fields{Version: 4, Proto: 6}, data[:19])
	tells(t, short.b, true, "tcp", "ip")
	tells(t, short.b, false, "port 80", "src port 80", "dst port 443", "port 0")
	behind := built(ip.Fields{Version: 4, Proto: 6, Offset: 8}, data)
	tells(t, behind.b, true, "tcp")
	tells(t, behind.b, false, "port 80", "port 0")
	six := built(ip.Fields{Version: 6, Proto: 17}, data)
	tells(t, six.b, true, "ip6", "udp", "port 80", "src port 80", "dst port 443", "greater 60", "less 60")
	tells(t, six.b, false, "ip", "host 0.0.0.0", "net 0.0.0.0/0", "src host 0.0.0.0", "dst net 0.0.0.0/0", "greater 61", "less 59")
	icmp := built(ip.Fields{Version: 4, Proto: 1}, data)
	tells(t, icmp.b, true, "icmp", "proto 1")
	tells(t, icmp.b, false, "port 80", "port 0", "src port 0", "dst port 443", "ip6")
	icmp6 := built(ip.Fields{Version: 6, Proto: 58}, data)
	tells(t, icmp6.b, true, "proto 58", "ip6")
	tells(t, icmp6.b, false, "icmp", "port 0", "port 80")
	one := built(ip.Fields{Version: 6, Proto: 1}, data)
	tells(t, one.b, true, "icmp")
	low := built(ip.Fields{Version: 4, Proto: 4}, data)
	tells(t, low.b, true, "proto 4", "ip", "not proto 6")
	tells(t, low.b, false, "ip6")
	zero := built(ip.Fields{Version: 4, Proto: 0}, data)
	tells(t, zero.b, true, "proto 0")
	tells(t, zero.b, false, "proto 1", "port 0")
}

func TestHoldsOfExtendedIpv6(t *testing.T) {
	data := []byte{17, 0, 0, 0, 0, 0, 0, 0, 0, 5, 0, 7, 0, 8, 0, 0}
	b := built(ip.Fields{Version: 6, Proto: 59}, data).b
	b[6] = 60
	tells(t, b, true, "udp", "port 5", "dst port 7", "proto 17")
	tells(t, b, false, "proto 60", "proto 59")
}

func TestHoldsOfNoPacket(t *testing.T) {
	right := built(ip.Fields{Version: 4, Proto: 17, Src: 1, Dst: 2}, []byte{0, 5, 0, 7, 0, 8, 0, 0}).b
	spoiled := slices.Clone(right)
	spoiled[10]++ // the checksum
	for _, b := range [][]byte{nil, {}, {0}, {0x45}, {0x60}, right[:20], right[:27], spoiled, make([]byte, 40), make([]byte, 70000)} {
		tells(t, b, false, "ip", "ip6", "icmp", "tcp", "udp", "proto 0", "proto 17", "host 0.0.0.0", "host 0.0.0.1",
			"net 0.0.0.0/0", "src net 0.0.0.0/0", "dst net 0.0.0.0/0", "port 0", "port 5", "src port 0", "dst port 0",
			"proto 0 or udp", "udp and udp")
		tells(t, b, true, "greater 0", "not ip", "not (tcp or udp)", "not udp and greater 0", "ip or greater 0", "not proto 0")
		n := len(b)
		tells(t, b, n <= 65535, "less 65535")
		tells(t, b, n >= 65535, "greater 65535")
		if n <= 65535 {
			tells(t, b, true, "less "+strconv.Itoa(n), "greater "+strconv.Itoa(n))
			tells(t, b, false, "greater "+strconv.Itoa(n+1))
		}
		if n > 0 && n <= 65535 {
			tells(t, b, false, "less "+strconv.Itoa(n-1))
		}
	}
	tells(t, append(right, 9, 9), true, "ip", "udp", "port 5", "less 30", "greater 30")
	tells(t, append(right, 9, 9), false, "less 29", "less 28", "greater 31")
}

func TestHoldsIsTheModel(t *testing.T) {
	var d draws = 4
	met := map[string]int{}
	for range 6000 {
		l := agrees(t, d.drawn(1+d.next(8)))
		if l == nil {
			continue
		}
		for range 10 {
			p := d.drawnPacket()
			held, e := Holds(l, p.b)
			if want := p.told(l, len(l)-1); held != want || e != api.OK {
				t.Fatalf("%v of %x: %v %d", l, p.b, held, e)
			}
			met[strconv.FormatBool(held)+strconv.Itoa(p.version)+strconv.FormatBool(p.ports)]++
		}
	}
	if len(met) != 10 {
		t.Error(met)
	}
	for what, n := range met {
		if n < 100 {
			t.Error(what, n)
		}
	}
}

// P23.5, P23.6

func TestTheAlgebra(t *testing.T) {
	var d draws = 5
	for range 2000 {
		e, f, g := "("+d.drawn(1+d.next(4))+")", "("+d.drawn(1+d.next(4))+")", "("+d.drawn(1+d.next(4))+")"
		if agrees(t, e+"and"+f+"and"+g) == nil {
			continue
		}
		p := d.drawnPacket()
		for a, b := range map[string]string{
			e:                                       "not not " + e,
			"not (" + e + "and" + f + ")":           "not " + e + "or not " + f,
			"not (" + e + "or" + f + ")":            "not " + e + "and not " + f,
			e + "and" + f:                           f + "&&" + e,
			e + "or" + f:                            f + "||" + e,
			e + "and" + f + "and" + g:               e + "and (" + f + "and" + g + ")",
			e + "or" + f + "or" + g:                 e + "or (" + f + "or" + g + ")",
			e + "and(" + f + "or" + g + ")":         e + "and" + f + "or" + e + "and" + g,
			f:                                       f + "and" + f,
			g:                                       g + "or" + g,
			e + "or(" + e + "and" + f + ")":         "\t" + e + "  ",
			"(" + e + "or" + g + ")":                e + "or" + g,
			"not ip and not ip6 and " + e + "or ip": "ip or (" + e + "and ! ip && !ip6)",
		} {
			if holdsOf(t, a, p.b) != holdsOf(t, b, p.b) {
				t.Fatalf("%q %q of %x", a, b, p.b)
			}
		}
	}
}

func TestBlanksChangeNothing(t *testing.T) {
	l, _, _ := Parse("not(tcp and src port 80)or less 7")
	for _, s := range []string{"not (tcp and src port 80) or less 7", "  not\t( tcp  and src\t\tport 80 )or  less 7\t", "!(tcp&&src port 80)||less 7"} {
		if m, e, _ := Parse(s); e != api.OK || !Same(l, m) {
			t.Error(s, m, e)
		}
	}
}

// P23.7

func TestEitherIsSrcOrDst(t *testing.T) {
	var d draws = 6
	for range 20000 {
		p := d.drawnPacket()
		for _, s := range []string{"host " + d.addr(), "net " + d.addr() + "/" + strconv.Itoa(d.next(33)), "port " + strconv.Itoa(d.next(4)*80)} {
			if holdsOf(t, "src "+s+" or dst "+s, p.b) != holdsOf(t, s, p.b) {
				t.Fatalf("%q of %x", s, p.b)
			}
		}
	}
}
