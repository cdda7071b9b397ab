package ip

import (
	"bytes"
	"math"
	"slices"
	"testing"
)

// draws is a chain of numbers that are the same at each run.
type draws uint64

func (d *draws) next(below int) int {
	*d = *d*6364136223846793005 + 1442695040888963407
	return int(uint64(*d)>>33) % below
}

// some answers that many drawn bytes.
func (d *draws) some(n int) []byte {
	out := make([]byte, n)
	for i := range out {
		out[i] = byte(d.next(256))
	}
	return out
}

// join answers all pieces, one behind the other.
func join(pieces ...[]byte) []byte {
	return bytes.Join(pieces, nil)
}

// summed reckons a checksum pair by pair, each carry at once.
func summed(b []byte) int {
	n := 0
	for i := 0; i < len(b); i += 2 {
		pair := int(b[i]) * 256
		if i+1 < len(b) {
			pair += int(b[i+1])
		}
		if n += pair; n > 65535 {
			n -= 65535
		}
	}
	return 65535 - n
}

// sealed answers a packet of IP with the checksum that its header must have.
func sealed(b []byte) []byte {
	out := slices.Clone(b)
	head := out[:min(len(out), int(out[0]%16)*4)]
	if len(head) >= 20 {
		head[10], head[11] = 0, 0
		n := summed(head)
		head[10], head[11] = byte(n>>8), byte(n)
	}
	return out
}

// fourOf answers a packet of IP, from 10.0.0.1 to 10.0.0.2, of a protocol, with options and data.
func fourOf(proto int, options, data []byte) []byte {
	n := 20 + len(options) + len(data)
	head := []byte{byte(4<<4 | 5 + len(options)/4), 0, byte(n >> 8), byte(n), 0, 0, 0, 0, 64, byte(proto), 0, 0, 10, 0, 0, 1, 10, 0, 0, 2}
	return sealed(join(head, options, data))
}

// sixOf answers a packet of IPv6, from fe80::1 to fe80::2, whose header names next, with what stands behind it.
func sixOf(next int, behind []byte) []byte {
	head := []byte{0x60, 0, 0, 0, byte(len(behind) >> 8), byte(len(behind)), byte(next), 64}
	return join(head, sixAddr(1), sixAddr(2), behind)
}

// sixAddr answers fe80::n.
func sixAddr(n byte) []byte {
	out := make([]byte, 16)
	out[0], out[1], out[15] = 0xfe, 0x80, n
	return out
}

// changed answers b with another byte.
func changed(b []byte, at int, to byte) []byte {
	out := slices.Clone(b)
	out[at] = to
	return out
}

// P18.1

func TestSum(t *testing.T) {
	for _, c := range []struct {
		b    []byte
		want int
	}{
		{nil, 65535},
		{[]byte{}, 65535},
		{[]byte{0}, 65535},
		{[]byte{0, 0, 0}, 65535},
		{[]byte{0x00, 0x01, 0xf2, 0x03, 0xf4, 0xf5, 0xf6, 0xf7}, 0x220d},
		{[]byte{1}, 0xfeff},
		{[]byte{0, 1}, 0xfffe},
		{[]byte{0xff}, 0x00ff},
		{[]byte{0xff, 0xff}, 0},
		{[]byte{0xff, 0xff, 0xff, 0xff}, 0},
		{[]byte{0xff, 0xff, 0, 1}, 0xfffe},
		{[]byte{0x80, 0, 0x80, 0}, 0xfffe},
		{[]byte{0x12, 0x34, 0x56}, 0x97cb},
	} {
		if got := Sum(c.b); got != c.want {
			t.Errorf("%x: %x", c.b, got)
		}
	}
	if got := Sum(bytes.Repeat([]byte{0xff, 0xff}, 100000)); got != 0 { // the carries carry
		t.Errorf("%x", got)
	}
}

func TestSumIsAsItsWords(t *testing.T) {
	var d draws = 1
	for range 20000 {
		b := d.some(d.next(70))
		if d.next(2) == 0 {
			for i := range b {
				b[i] |= 0xf0
			}
		}
		before := slices.Clone(b)
		if got := Sum(b); got != summed(b) || !bytes.Equal(b, before) {
			t.Errorf("%x: %x", before, got)
		}
	}
}

// P18.9

func TestSumWithTheSumBehindIsNone(t *testing.T) {
	var d draws = 2
	for range 20000 {
		b := d.some(2 * d.next(40))
		n := Sum(b)
		if got := Sum(join(b, []byte{byte(n >> 8), byte(n)})); got != 0 {
			t.Errorf("%x: %x", b, got)
		}
	}
}

func TestSumOfPairsInAnyOrder(t *testing.T) {
	var d draws = 3
	for range 20000 {
		b := d.some(2 + 2*d.next(20))
		want := Sum(b)
		i, j := 2*d.next(len(b)/2), 2*d.next(len(b)/2)
		b[i], b[i+1], b[j], b[j+1] = b[j], b[j+1], b[i], b[i+1]
		if got := Sum(b); got != want {
			t.Errorf("%x: %x", b, got)
		}
	}
	if Sum([]byte{1, 2}) == Sum([]byte{2, 1}) {
		t.Error("the bytes of a pair have an order")
	}
}

// P18.4

func TestText(t *testing.T) {
	a := Fields{Version: 4, Src: 0x0a000001, Dst: 0x0a000002}
	b := Fields{Version: 6, Src6: [16]byte(sixAddr(1)), Dst6: [16]byte{0, 0, 0x0a, 0xb0, 0xff, 0xff, 1, 0, 0, 1, 0x10, 0, 0xde, 0xad, 0, 0x0f}}
	const sixes = "fe80:0:0:0:0:0:0:1 > 0:ab0:ffff:100:1:1000:dead:f "
	for _, c := range []struct {
		f       Fields
		version int
		proto   int
		carries bool
		want    string
	}{
		{a, 4, 17, true, "10.0.0.1:5 > 10.0.0.2:70000 udp"},
		{a, 4, 6, true, "10.0.0.1:5 > 10.0.0.2:70000 tcp"},
		{a, 4, 17, false, "10.0.0.1 > 10.0.0.2 udp"},
		{a, 4, 6, false, "10.0.0.1 > 10.0.0.2 tcp"},
		{a, 4, 1, true, "10.0.0.1 > 10.0.0.2 icmp"},
		{a, 4, 1, false, "10.0.0.1 > 10.0.0.2 icmp"},
		{a, 4, 58, true, "10.0.0.1 > 10.0.0.2 icmp"},
		{a, 4, 0, false, "10.0.0.1 > 10.0.0.2 proto 0"},
		{a, 4, 2, true, "10.0.0.1 > 10.0.0.2 proto 2"},
		{a, 4, 255, true, "10.0.0.1 > 10.0.0.2 proto 255"},
		{a, 4, -7, true, "10.0.0.1 > 10.0.0.2 proto -7"},
		{a, 4, math.MaxInt, true, "10.0.0.1 > 10.0.0.2 proto 9223372036854775807"},
		{b, 6, 17, true, "[fe80:0:0:0:0:0:0:1]:5 > [0:ab0:ffff:100:1:1000:dead:f]:70000 udp"},
		{b, 6, 6, true, "[fe80:0:0:0:0:0:0:1]:5 > [0:ab0:ffff:100:1:1000:dead:f]:70000 tcp"},
		{b, 6, 17, false, sixes + "udp"},
		{b, 6, 6, false, sixes + "tcp"},
		{b, 6, 58, true, sixes + "icmp"},
		{b, 6, 1, true, sixes + "icmp"},
		{b, 6, 59, false, sixes + "proto 59"},
		{a, 0, 17, true, ""},
		{a, 5, 17, true, ""},
		{b, -6, 17, true, ""},
		{b, 4 + 256, 6, true, ""},
	} {
		f := c.f
		f.Version, f.Proto, f.Carries, f.SrcPort, f.DstPort = c.version, c.proto, c.carries, 5, 70000
		if got := Text(f); got != c.want {
			t.Errorf("%q, not %q", got, c.want)
		}
	}
}

func TestTextOfNumbersOfAnyKind(t *testing.T) {
	for _, c := range []struct {
		n    int64
		want string
	}{
		{0, "0.0.0.0"},
		{math.MaxUint32, "255.255.255.255"},
		{0x01020304, "1.2.3.4"},
		{0xc0a80064, "192.168.0.100"},
		{1 << 32, "0.0.0.0"},
		{1<<32 + 0x7f000001, "127.0.0.1"},
		{-1, "255.255.255.255"},
		{-2, "255.255.255.254"},
		{math.MinInt64, "0.0.0.0"},
		{math.MaxInt64, "255.255.255.255"},
	} {
		f := Fields{Version: 4, Src: c.n, Dst: 1, Proto: 6, Carries: true, SrcPort: -3, DstPort: math.MinInt}
		if got, want := Text(f), c.want+":-3 > 0.0.0.1:-9223372036854775808 tcp"; got != want {
			t.Errorf("%q, not %q", got, want)
		}
		f = Fields{Version: 4, Src: 1, Dst: c.n}
		if got, want := Text(f), "0.0.0.1 > "+c.want+" proto 0"; got != want {
			t.Errorf("%q, not %q", got, want)
		}
	}
}

func TestTextOfTheExample(t *testing.T) {
	b, _ := Build(Fields{Version: 4, Ttl: 64, Proto: 17, Src: 0x0a000001, Dst: 0x0a000002}, []byte{0, 5, 0, 7, 0, 8, 0, 0})
	f, _ := Parse(b)
	if got := Text(f); got != "10.0.0.1:5 > 10.0.0.2:7 udp" {
		t.Errorf("%q", got)
	}
}
