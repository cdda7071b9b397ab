package ctl

import (
	"bytes"
	"slices"
	"strings"
	"testing"

	"tether/api"
	"tether/hdlc"
	"tether/ip"
)

// desk answers one that has not started. Its draws hang on its options: two ends whose draws were the same would not agree on unlike identifiers.
func desk(t *testing.T, options string, secrets ...string) *Desk {
	t.Helper()
	seed := uint64(1)
	for _, c := range []byte(options) {
		seed = seed*31 + uint64(c)
	}
	d, e, text, at := New(options, strings.Join(secrets, "\n"), seed)
	if e != api.OK || d == nil || text != 0 || at != 0 {
		t.Fatal(options, e, text, at)
	}
	return d
}

// started answers one that has.
func started(t *testing.T, options string, secrets ...string) *Desk {
	t.Helper()
	d := desk(t, options, secrets...)
	if _, e := d.Start(); e != api.OK {
		t.Fatal(e)
	}
	return d
}

// says holds the answer to a line against what is to be, where nothing is put out.
func says(t *testing.T, d *Desk, line, want string) {
	t.Helper()
	if got, out := d.Line(line); got != want || len(out) != 0 {
		t.Errorf("%.60q answered %.300q %v instead of %.300q", line, got, out, want)
	}
}

// joined answers two desks on a wire, with their carriers, and the acts that follow.
func joined(t *testing.T, a, b *Desk, acts ...Act) *Wire {
	t.Helper()
	w, e := Join(a, b)
	if e != api.OK {
		t.Fatal(e)
	}
	plays(t, w, Act{Kind: Modem, N: 1}, Act{Kind: Modem, Side: 1, N: 1})
	plays(t, w, acts...)
	return w
}

// plays plays acts that can be.
func plays(t *testing.T, w *Wire, l ...Act) {
	t.Helper()
	if e, at := w.Play(l); e != api.OK || at != 0 {
		t.Fatal(e, at)
	}
}

// flow is all that waits.
var flow = Act{Kind: Flow}

// mill and alice are the options of two ends that go together.
const (
	mill  = "name mill\nremotename alice\nnomagic\n10.0.0.1:\n"
	alice = "name alice\nremotename mill\nnomagic\n10.0.0.2:\n"
)

// pair answers two desks that are linked, with more options for both.
func pair(t *testing.T, more string, secrets ...string) (*Desk, *Desk, *Wire) {
	t.Helper()
	a, b := desk(t, mill+more, secrets...), desk(t, alice+more, secrets...)
	w := joined(t, a, b, flow)
	if p, _ := a.Ready(); !p {
		t.Fatal(a.Line("status"))
	}
	if p, _ := b.Ready(); !p {
		t.Fatal(b.Line("status"))
	}
	return a, b, w
}

// frames answers those that stand in bytes of the line.
func frames(b []byte) []api.Frame {
	return hdlc.New(api.MaxMru, 0, true, true).Feed(b)
}

// four answers a packet of IP of a protocol, with a byte that tells it from others.
func four(proto int, mark byte) []byte {
	b, _ := ip.Build(ip.Fields{Version: 4, Ttl: 64, Proto: proto, Src: 1, Dst: 2}, append(make([]byte, 20), mark))
	return b
}

// six answers one of IPv6.
func six(mark byte) []byte {
	b, _ := ip.Build(ip.Fields{Version: 6, Ttl: 64, Proto: 17}, append(make([]byte, 8), mark))
	return b
}

const (
	tcp = 6
	udp = 17
)

func sameOuts(a, b []api.Out) bool {
	return slices.EqualFunc(a, b, func(x, y api.Out) bool {
		return x.Kind == y.Kind && bytes.Equal(x.B, y.B) && x.Text == y.Text
	})
}

func sameLists(a, b [][]byte) bool {
	return slices.EqualFunc(a, b, bytes.Equal)
}
