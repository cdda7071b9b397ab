package conf

import (
	"math"
	"strconv"
	"strings"
	"testing"

	"tether/api"
)

// P5.5

func TestAddr(t *testing.T) {
	for n, want := range map[int64]string{
		0x0a000001:   "10.0.0.1",
		0:            "0.0.0.0",
		1:            "0.0.0.1",
		1<<32 - 1:    "255.255.255.255",
		0x01020304:   "1.2.3.4",
		0x7f640009:   "127.100.0.9",
		10<<24 | 255: "10.0.0.255",
	} {
		if s, e := Addr(n); s != want || e != api.OK {
			t.Error(n, s, e)
		}
	}
	for _, n := range []int64{-1, 1 << 32, math.MinInt64, math.MaxInt64, 1<<40 + 1} {
		if s, e := Addr(n); s != "" || e != api.ErrAddr {
			t.Error(n, s, e)
		}
	}
}

func TestIp(t *testing.T) {
	for s, want := range map[string]int64{
		"10.0.0.1": 0x0a000001, "0.0.0.0": 0, "000.000.000.000": 0, "255.255.255.255": 1<<32 - 1,
		"010.00.0.001": 0x0a000001, "08.09.1.2": 0x08090102, "1.2.3.4": 0x01020304,
	} {
		if n, e := Ip(s); n != want || e != api.OK {
			t.Error(s, n, e)
		}
	}
	for _, s := range []string{
		"", ".", "...", "10.0.0", "10.0.0.", ".10.0.0", "10..0.1", "10.0.0.1.", "10.0.0.1.2", "10.0.0.256", "256.0.0.0", "10.0.0.0001", "1000.0.0.1",
		"10.0.0.a", "10.0.0.-1", "10.0.0.+1", "10.0.0.1 ", " 10.0.0.1", "10.0.0.0x1", "10.0.0.1_0", "10,0,0,1", "10:0:0:1", "1.2.3.４", strings.Repeat("1.", 9999), "99999999999999999999.0.0.1",
	} {
		if n, e := Ip(s); n != 0 || e != api.ErrAddr {
			t.Error(s, n, e)
		}
	}
}

func TestIdent(t *testing.T) {
	for n, want := range map[uint64]string{
		0:                  "0000:0000:0000:0000",
		1:                  "0000:0000:0000:0001",
		0x0123456789abcdef: "0123:4567:89ab:cdef",
		math.MaxUint64:     "ffff:ffff:ffff:ffff",
		0x00a0000b00000000: "00a0:000b:0000:0000",
	} {
		if s := Ident(n); s != want {
			t.Error(n, s)
		}
	}
}

func TestId(t *testing.T) {
	for s, want := range map[string]uint64{
		"0:0:0:1": 1, "0:0:0:0": 0, "0000:0000:0000:0000": 0, "1:2:3:4": 0x0001000200030004, "fFfF:FFFF:ffff:ffff": math.MaxUint64, "abc:0de:f:00": 0x0abc00de000f0000,
	} {
		if n, e := Id(s); n != want || e != api.OK {
			t.Error(s, n, e)
		}
	}
	for _, s := range []string{
		"", ":", ":::", "1:2:3", "1:2:3:", ":1:2:3", "1::2:3", "::", "1:2:3:4:5", "1:2:3:4:", "00001:0:0:0", "0:0:0:10000", "g:0:0:0", "0x1:0:0:0", "-1:0:0:0", "+1:0:0:0", "1:2:3:4 ", " 1:2:3:4", "1.2.3.4", "0_1:0:0:0",
	} {
		if n, e := Id(s); n != 0 || e != api.ErrAddr {
			t.Error(s, n, e)
		}
	}
}

// P5.6

func TestAddressesAndIdentifiersAreReadAgain(t *testing.T) {
	var d draws = 4
	for range 20000 {
		n := int64(d.next(65536))<<16 | int64(d.next(65536))
		s, _ := Addr(n)
		if m, e := Ip(s); m != n || e != api.OK {
			t.Fatal(n, s, m, e)
		}
		id := uint64(n)<<uint(d.next(33)) ^ uint64(d.next(65536))
		if m, e := Id(Ident(id)); m != id || e != api.OK {
			t.Fatal(id, Ident(id), m, e)
		}
		if m, e := Id(strings.ToUpper(Ident(id))); m != id || e != api.OK {
			t.Fatal(id, m, e)
		}
	}
}

// P5.3

func TestSpans(t *testing.T) {
	for s, want := range map[string]int64{
		"0": 0, "90": 90000, "90s": 90000, "90ms": 90, "0ms": 0, "0s": 0, "0000000001": 1000, "0000000001s": 1000, "0000000001ms": 1,
		"2147483": 2147483000, "2147483s": 2147483000, "2147483648ms": 1 << 31,
	} {
		c, e, at := Parse("idle " + s)
		if c.Idle != want || e != api.OK || at != 0 {
			t.Error(s, c.Idle, e, at)
		}
	}
	for _, s := range []string{
		`""`, "s", "ms", "m", "1m", "1h", "1S", "1MS", "1 ms", "1mss", "1sms", "1ss", "1.5", "-1", "+1", "1_0", "0x1", "2147484", "2147484s", "2147483649ms", "9999999999", "9999999999ms",
		"00000000001", "00000000001s", "00000000001ms", "10000000000000000000000", "1e3",
	} {
		want := api.ErrValue
		if strings.Contains(s, " ") {
			want = api.ErrArg
		}
		if c, e, at := Parse("\nidle " + s); !Same(c, api.Conf{}) || e != want || at != 1 {
			t.Error(s, c.Idle, e, at)
		}
	}
}

func TestNumbers(t *testing.T) {
	for s, want := range map[string]int{"64": 64, "16384": 16384, "0000001500": 1500, "064": 64} {
		if c, e, _ := Parse("mru " + s); c.Mru != want || e != api.OK {
			t.Error(s, c.Mru, e)
		}
	}
	for _, s := range []string{`""`, "63", "16385", "00000001500", "-64", "+64", "64s", "64ms", "0x64", "1e3", "1_00", "4294968796", "9999999999", "18446744073709553116", strconv.Itoa(math.MaxInt)} {
		if c, e, at := Parse("mru " + s); !Same(c, api.Conf{}) || e != api.ErrValue || at != 0 {
			t.Error(s, c.Mru, e, at)
		}
	}
}
