package secret

import (
	"math"
	"slices"
	"strings"
	"testing"

	"tether/api"
)

// draws is a chain of numbers that are the same at each run.
type draws uint64

func (d *draws) next(below int) int {
	*d = *d*6364136223846793005 + 1442695040888963407
	return int(uint64(*d)>>33) % below
}

// among draws one of some.
func among[T any](d *draws, some ...T) T {
	return some[d.next(len(some))]
}

// name draws one; blanks and # often.
func (d *draws) name() string {
	b := make([]byte, 1+d.next(among(d, 5, api.MaxName)))
	for i := range b {
		b[i] = among(d, ' ', '#', '*', byte(32+d.next(95)))
		if b[i] == '"' || b[i] == '\\' {
			b[i] = 'n'
		}
	}
	return string(b)
}

// short draws one of few names.
func (d *draws) short() string {
	return among(d, "*", "*", "a", "b", "c")
}

// secret draws one that is right.
func (d *draws) secret(name func() string) api.Secret {
	s := api.Secret{Client: name(), Server: name()}
	if d.next(4) != 0 {
		s.Word = d.name()
	}
	for range among(d, 0, 0, d.next(4), d.next(17)) {
		a := among(d, int64(1+d.next(1<<30)), int64(1+d.next(300)), 1<<32-1)
		if !slices.Contains(s.Addrs, a) {
			s.Addrs = append(s.Addrs, a)
		}
	}
	return s
}

func (d *draws) secrets(below int, name func() string) []api.Secret {
	l := make([]api.Secret, d.next(below))
	for i := range l {
		l[i] = d.secret(name)
	}
	return l
}

func line(client, server, word string, addrs ...int64) api.Secret {
	return api.Secret{Client: client, Server: server, Word: word, Addrs: addrs}
}

// numbers are so many addresses, none twice.
func numbers(n int) []int64 {
	l := make([]int64, n)
	for i := range l {
		l[i] = int64(i + 1)
	}
	return l
}

// P6.1

func TestRight(t *testing.T) {
	long := strings.Repeat("n", 65)
	for i, c := range []struct {
		s api.Secret
		e api.Errno
	}{
		{api.Secret{Client: "alice", Server: "mill", Word: "x"}, api.OK},
		{api.Secret{Client: "*", Server: "*"}, api.OK},
		{api.Secret{Client: " ", Server: "#", Word: long[1:], Addrs: []int64{1, 1<<32 - 1}}, api.OK},
		{api.Secret{Client: long[1:], Server: long[1:], Word: "*", Addrs: numbers(16)}, api.OK},
		{api.Secret{Client: "**", Server: "a*"}, api.OK},
		{api.Secret{}, api.ErrName},
		{api.Secret{Client: "a"}, api.ErrName},
		{api.Secret{Server: "a"}, api.ErrName},
		{api.Secret{Client: long, Server: "a"}, api.ErrName},
		{api.Secret{Client: "a", Server: long}, api.ErrName},
		{api.Secret{Client: "a\"", Server: "a"}, api.ErrName},
		{api.Secret{Client: "a", Server: "a\\"}, api.ErrName},
		{api.Secret{Client: "a\x1f", Server: "a"}, api.ErrName},
		{api.Secret{Client: "a", Server: "a\x7f"}, api.ErrName},
		{api.Secret{Client: "a", Server: "b", Word: long}, api.ErrValue},
		{api.Secret{Client: "a", Server: "b", Word: "\""}, api.ErrValue},
		{api.Secret{Client: "a", Server: "b", Word: "\\"}, api.ErrValue},
		{api.Secret{Client: "a", Server: "b", Word: "\t"}, api.ErrValue},
		{api.Secret{Client: "a", Server: "b", Word: "ä"}, api.ErrValue},
		{api.Secret{Client: "a", Server: "b", Addrs: numbers(17)}, api.ErrFull},
		{api.Secret{Client: "a", Server: "b", Addrs: []int64{0}}, api.ErrAddr},
		{api.Secret{Client: "a", Server: "b", Addrs: []int64{1, -1}}, api.ErrAddr},
		{api.Secret{Client: "a", Server: "b", Addrs: []int64{1 << 32}}, api.ErrAddr},
		{api.Secret{Client: "a", Server: "b", Addrs: []int64{math.MinInt64}}, api.ErrAddr},
		{api.Secret{Client: "a", Server: "b", Addrs: []int64{5, 6, 5}}, api.ErrTwice},
		// The first one of several is told.
		{api.Secret{Client: "a", Word: long}, api.ErrName},
		{api.Secret{Client: "a", Server: "b", Word: long, Addrs: make([]int64, 17)}, api.ErrValue},
		{api.Secret{Client: "a", Server: "b", Addrs: make([]int64, 17)}, api.ErrFull},
		{api.Secret{Client: "a", Server: "b", Addrs: []int64{5, 5, 0}}, api.ErrAddr},
	} {
		if e := Right(c.s); e != c.e {
			t.Error(i, e, "instead of", c.e)
		}
	}
}

func TestAddr(t *testing.T) {
	for s, want := range map[string]int64{"0.0.0.0": 0, "10.0.0.5": 0x0a000005, "255.255.255.255": 1<<32 - 1, "1.2.3.4": 0x01020304, "100.20.3.0": 0x64140300} {
		if a, e := Addr(s); a != want || e != api.OK {
			t.Error(s, a, e)
		}
	}
	for _, s := range []string{
		"", ".", "...", "1", "1.2.3", "1.2.3.", ".1.2.3", "1..2.3", "1.2.3.4.", "1.2.3.4.5", "1.2.3.256", "256.1.1.1", "1000.1.1.1", "1.2.3.-4", "1.2.3.+4", "1.2.3.a", "a", "1.2.3.4 ", " 1.2.3.4", "1,2,3,4",
		"00.0.0.0", "0.0.0.00", "01.2.3.4", "1.02.3.4", "1.2.003.4", "1.2.3.04", "1.2.3.0x4", "1.2.3.4_0", strings.Repeat("1.", 9999),
	} {
		if a, e := Addr(s); a != 0 || e != api.ErrAddr {
			t.Error(s, a, e)
		}
	}
}

func TestAddrText(t *testing.T) {
	var d draws = 1
	for range 5000 {
		a := int64(d.next(65536))<<16 | int64(d.next(65536))
		s, e := AddrText(a)
		if again, ae := Addr(s); e != api.OK || ae != api.OK || again != a {
			t.Fatal(a, s, e, again, ae)
		}
	}
	for a, want := range map[int64]string{0: "0.0.0.0", 1<<32 - 1: "255.255.255.255", 0x0a000005: "10.0.0.5"} {
		if s, e := AddrText(a); s != want || e != api.OK {
			t.Error(a, s, e)
		}
	}
	for _, a := range []int64{-1, 1 << 32, math.MinInt64, math.MaxInt64} {
		if s, e := AddrText(a); s != "" || e != api.ErrAddr {
			t.Error(a, s, e)
		}
	}
}

// P6.4

func TestAllowed(t *testing.T) {
	some := api.Secret{Client: "a", Server: "b", Addrs: []int64{5, 7}}
	odd := api.Secret{Addrs: []int64{0, -1, 1 << 32, 9}}
	for _, c := range []struct {
		s    api.Secret
		addr int64
		want bool
	}{
		{some, 5, true}, {some, 7, true}, {some, 6, false}, {some, 0, false}, {some, -5, false},
		{api.Secret{}, 1, true}, {api.Secret{Addrs: []int64{}}, 1<<32 - 1, true}, {api.Secret{}, 0, false}, {api.Secret{}, 1 << 32, false}, {api.Secret{}, -1, false}, {api.Secret{}, math.MinInt64, false},
		{odd, 0, false}, {odd, -1, false}, {odd, 1 << 32, false}, {odd, 9, true},
	} {
		if got := Allowed(c.s, c.addr); got != c.want {
			t.Error(c.s, c.addr, got)
		}
	}
}

func TestSame(t *testing.T) {
	one := []api.Secret{{Client: "a", Server: "b", Word: "c", Addrs: []int64{1, 2}}, {Client: "x"}}
	if !Same(one, []api.Secret{line("a", "b", "c", 1, 2), line("x", "", "")}) || !Same(nil, []api.Secret{}) {
		t.Error("the same are not the same")
	}
	for i, two := range [][]api.Secret{
		nil, one[:1], {one[1], one[0]}, {one[0], one[1], one[1]},
		{line("x", "b", "c", 1, 2), one[1]}, {line("a", "x", "c", 1, 2), one[1]}, {line("a", "b", "x", 1, 2), one[1]},
		{line("a", "b", "c", 2, 1), one[1]}, {line("a", "b", "c", 1), one[1]}, {line("a", "b", "c"), one[1]}, {line("a", "b", "c", 1, 3), one[1]},
	} {
		if Same(one, two) || Same(two, one) {
			t.Error(i, "another one is the same")
		}
	}
}
