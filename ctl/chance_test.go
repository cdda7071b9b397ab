package ctl

import (
	"strings"
	"testing"

	"tether/api"
)

// chance is a chain of numbers that are the same at each run.
type chance uint64

func (d *chance) next(below int) int {
	*d = *d*6364136223846793005 + 1442695040888963407
	return int(uint64(*d)>>33) % below
}

// one answers one of a few.
func one[T any](d *chance, l ...T) T {
	return l[d.next(len(l))]
}

// options draws those of an end.
func (d *chance) options(name, other, addr string) string {
	l := []string{
		"name " + name,
		one(d, "", "remotename "+other),
		one(d, "", "", "require-pap", "require-chap", "require-eap"),
		one(d, "", "", "mru 64", "mru 300"),
		one(d, "", "asyncmap 0"),
		one(d, "", "nopfc"), one(d, "", "noaccomp"), one(d, "", "nomagic"),
		addr + ":",
		one(d, "", "ipv6", "ipv6"),
		one(d, "", "", "deflate 9", "bsdcomp 10", "deflate 12\nbsdcomp 12"),
		one(d, "lcp-restart 1", "lcp-restart 3"),
		one(d, "", "", "echo-interval 5"),
		one(d, "", "", "chap-interval 2"),
		one(d, "", "", "idle 2", "maxconnect 5"),
		one(d, "holdoff 0", "holdoff 1", "holdoff 30"),
		one(d, "", "persist"), one(d, "", "", "demand"),
		one(d, "maxfail 0", "maxfail 1", "maxfail 3", ""),
		one(d, "", "", "filter tcp"),
		one(d, "", "", "", "", `connect "ABORT BUSY '' ATZ ATZ ATD"`),
	}
	return strings.Join(l, "\n") + "\n"
}

// packet draws one of IP, or of IPv6.
func (d *chance) packet() []byte {
	b := one(d, four(tcp, 1), four(udp, 2), six(3), []byte{0x45, 1}, []byte{0x60})
	for range d.next(one(d, 1, 1, 20, 200)) {
		b = append(b, byte(d.next(3)))
	}
	return b
}

// world draws two desks on a wire.
func (d *chance) world(t *testing.T) *Wire {
	t.Helper()
	secrets := "alice mill x\nmill alice " + one(d, "x", "x", "x", "y")
	var l [2]*Desk
	for side, options := range []string{d.options("mill", "alice", "10.0.0.1"), d.options("alice", "mill", "10.0.0.2")} {
		k, e, _, _ := New(options, secrets, uint64(d.next(1<<31)))
		if e != api.OK {
			t.Fatal(options, e)
		}
		l[side] = k
	}
	w, e := Join(l[0], l[1])
	if e != api.OK {
		t.Fatal(e)
	}
	return w
}

// act draws one that can be, on the whole.
func (d *chance) act(w *Wire) Act {
	side := d.next(2)
	switch n := d.next(24); {
	case n < 8:
		return flow
	case n < 10:
		return Act{Kind: Carry, Side: side, N: int64(d.next(100))}
	case n < 14:
		return Act{Kind: Packet, Side: side, B: d.packet()}
	case n < 17:
		return Act{Kind: Modem, Side: side, N: int64(min(d.next(6), 1))}
	case n == 17:
		return Act{Kind: Random, Side: side, N: int64(d.next(1<<30)) << 32}
	case n == 18:
		return Act{Kind: Line, Side: side, Text: one(d, "up", "down", "status", "counters", "x")}
	case n == 19:
		return Act{Kind: Drop, Side: side, N: int64(d.next(60))}
	case n == 20:
		return Act{Kind: Turn, Side: side, N: int64(d.next(2000))}
	case n == 21:
		return Act{Kind: Put, Side: side, B: []byte(one(d, "ATZ\r", "ATD", "BUSY", "~", "~~x~", "\x7d"))}
	}
	return Act{Kind: Tick, N: w.ends[0].desk.daemon.Now() + int64(d.next(one(d, 2, 100, 4000)))}
}
