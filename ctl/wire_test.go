package ctl

import (
	"bytes"
	"math"
	"slices"
	"strings"
	"testing"

	"tether/api"
)

// P30.2

func TestJoinRefusesWhatCanNotBe(t *testing.T) {
	a, b := desk(t, "demand\n"), desk(t, "demand\n")
	s := started(t, "demand\n")
	for i, k := range []struct {
		a, b *Desk
		want api.Errno
	}{
		{nil, nil, api.ErrNil}, {nil, a, api.ErrNil}, {a, nil, api.ErrNil}, {nil, s, api.ErrNil}, {s, nil, api.ErrNil}, {&Desk{}, a, api.ErrNil}, {a, &Desk{}, api.ErrNil},
		{a, a, api.ErrTwice}, {s, s, api.ErrTwice}, {a, s, api.ErrState}, {s, a, api.ErrState}, {s, started(t, ""), api.ErrState},
	} {
		if w, e := Join(k.a, k.b); w != nil || e != k.want {
			t.Error(i, w, e)
		}
	}
	for _, d := range []*Desk{a, b} { // nothing has started
		if _, e := d.Step(api.Event{Kind: api.VTick}); e != api.ErrState {
			t.Error(e)
		}
	}
	if w, e := Join(a, b); w == nil || e != api.OK {
		t.Fatal(w, e)
	}
	if _, e := a.Start(); e != api.ErrState {
		t.Error(e)
	}
	if w, e := Join(a, b); w != nil || e != api.ErrState {
		t.Error(w, e)
	}
}

func TestJoinStartsBoth(t *testing.T) {
	w, e := Join(desk(t, "connect \"'' ATA OK\""), desk(t, "connect \"'' BTB OK\""))
	if e != api.OK || string(w.Waits(0)) != "BTB\r" || string(w.Waits(1)) != "ATA\r" {
		t.Fatal(w, e)
	}
	for side := range 2 {
		if l, e := w.Do(Act{Kind: Line, Side: side, Text: "status"}); e != api.OK || !sameOuts(l, []api.Out{{Kind: api.OTell, Text: "policy Dials phase Dead ready none"}}) {
			t.Error(l, e)
		}
	}
}

func TestOfANilWire(t *testing.T) {
	for _, w := range []*Wire{nil, {}} {
		for kind := -1; kind < 12; kind++ {
			for _, side := range []int{-1, 0, 1, 2} {
				if l, e := w.Do(Act{Kind: kind, Side: side, N: 1}); len(l) != 0 || e != api.ErrNil {
					t.Error(kind, l, e)
				}
			}
		}
		if e, at := w.Play(nil); e != api.ErrNil || at != 0 {
			t.Error(e, at)
		}
		if e, at := w.Play([]Act{flow, flow}); e != api.ErrNil || at != 0 {
			t.Error(e, at)
		}
		for side := -1; side < 3; side++ {
			if len(w.Waits(side))+len(w.Taken(side))+len(w.Told(side)) != 0 {
				t.Error(side)
			}
		}
	}
}

func TestActsThatAreNone(t *testing.T) {
	w, _ := Join(desk(t, ""), desk(t, "")) // which have their carriers not yet
	great := make([]byte, api.MaxRing+1)
	for i, k := range []struct {
		x    Act
		want api.Errno
	}{
		{Act{}, api.ErrEvent}, {Act{Kind: -1}, api.ErrEvent}, {Act{Kind: 11}, api.ErrEvent}, {Act{Kind: math.MaxInt, Side: 5, N: -1, B: great}, api.ErrEvent}, {Act{Kind: math.MinInt}, api.ErrEvent},
		{Act{Kind: Packet, Side: 2, B: []byte{0x45}}, api.ErrArg}, {Act{Kind: Packet, Side: -1}, api.ErrArg}, {Act{Kind: Packet, Side: math.MinInt}, api.ErrArg},
		{Act{Kind: Line, Side: 2}, api.ErrArg}, {Act{Kind: Modem, Side: 2, N: 1}, api.ErrArg}, {Act{Kind: Random, Side: -1}, api.ErrArg},
		{Act{Kind: Carry, Side: 2}, api.ErrArg}, {Act{Kind: Drop, Side: -1}, api.ErrArg}, {Act{Kind: Turn, Side: math.MaxInt}, api.ErrArg}, {Act{Kind: Put, Side: 2, B: great}, api.ErrArg},
		{Act{Kind: Carry, N: -1}, api.ErrArg}, {Act{Kind: Drop, N: math.MinInt64}, api.ErrArg}, {Act{Kind: Turn, N: -1}, api.ErrArg},
		{Act{Kind: Put, B: great}, api.ErrSize}, {Act{Kind: Put, Side: 1, N: -1, B: great}, api.ErrSize},
		{Act{Kind: Packet}, api.ErrIp}, {Act{Kind: Packet, Side: 1, B: []byte{0x50}}, api.ErrIp}, {Act{Kind: Modem, N: 2}, api.ErrArg}, {Act{Kind: Modem, Side: 1, N: -1}, api.ErrArg},
		{Act{Kind: Tick, N: -1}, api.ErrArg}, {Act{Kind: Tick, N: api.MaxTime + 1}, api.ErrArg},
	} {
		if l, e := w.Do(k.x); len(l) != 0 || e != k.want {
			t.Error(i, l, e)
		}
	}
	for side := range 2 {
		if len(w.Waits(side))+len(w.Taken(side))+len(w.Told(side)) != 0 {
			t.Error("something has changed")
		}
	}
	plays(t, w, Act{Kind: Tick, Side: 7}, Act{Kind: Flow, Side: -7, N: -1}, Act{Kind: Put, N: -5, B: []byte("RING")}, Act{Kind: Random, Side: 1, N: -1}, Act{Kind: Line, N: -1, Text: "now"}, Act{Kind: Packet, N: -1, B: four(tcp, 1)})
}

func TestATickIsBothEnds(t *testing.T) {
	a, b := desk(t, mill), desk(t, alice+"holdoff 7\n")
	w := joined(t, a, b)
	if l, e := w.Do(Act{Kind: Tick, N: 3000}); e != api.OK || len(l) != 0 || len(frames(w.Waits(0))) != 2 || len(frames(w.Waits(1))) != 2 {
		t.Error(l, e)
	}
	plays(t, w, Act{Kind: Modem, N: 0}, Act{Kind: Modem, Side: 1, N: 0})
	l, e := w.Do(Act{Kind: Tick, N: 33000})
	if e != api.OK || !sameOuts(l, []api.Out{{Kind: api.ODial}, {Kind: api.ODial}}) {
		t.Error(l, e)
	}
	if _, e := a.Step(api.Event{Kind: api.VTick, N: 40000}); e != api.OK {
		t.Fatal(e)
	}
	if l, e := w.Do(Act{Kind: Tick, N: 39000}); len(l) != 0 || e != api.ErrArg {
		t.Error(l, e)
	}
	says(t, b, "now", "33000") // with 0's error nothing is done at 1
	if _, e := b.Step(api.Event{Kind: api.VTick, N: 50000}); e != api.OK {
		t.Fatal(e)
	}
	plays(t, w, Act{Kind: Drop, Side: 1, N: math.MaxInt64}, Act{Kind: Modem, N: 1}, Act{Kind: Drop, Side: 1, N: math.MaxInt64})
	if l, e := w.Do(Act{Kind: Tick, N: 45000}); len(l) != 0 || e != api.ErrArg {
		t.Error(l, e)
	}
	says(t, a, "now", "45000") // it was done at 0
	if l := frames(w.Waits(1)); len(l) != 1 || l[0].Info[0] != api.CConfReq {
		t.Error(l)
	}
}

func TestPackets(t *testing.T) {
	_, _, w := pair(t, "")
	l, e := w.Do(Act{Kind: Packet, Side: 1, B: four(tcp, 1)})
	if len(l) != 0 || e != api.OK || len(frames(w.Waits(0))) != 1 {
		t.Error(l, e)
	}
	w.Do(Act{Kind: Packet, Side: 1, B: []byte{0x50}}) // it is refused
	plays(t, w, Act{Kind: Packet, Side: 1, B: six(2)}, Act{Kind: Packet, B: four(udp, 3)})
	l, e = w.Do(flow)
	if e != api.OK || !sameOuts(l, []api.Out{{Kind: api.OTun, B: four(tcp, 1)}, {Kind: api.OTun, B: four(udp, 3)}}) {
		t.Error(l, e)
	}
	if !sameLists(w.Taken(1), [][]byte{four(tcp, 1), six(2)}) || !sameLists(w.Taken(0), [][]byte{four(udp, 3)}) || !sameLists(w.Told(0), [][]byte{four(tcp, 1)}) || !sameLists(w.Told(1), [][]byte{four(udp, 3)}) {
		t.Error(w.Taken(0), w.Taken(1), w.Told(0), w.Told(1))
	}
	for _, side := range []int{-1, 2, math.MaxInt, math.MinInt} {
		if len(w.Waits(side))+len(w.Taken(side))+len(w.Told(side)) != 0 {
			t.Error(side)
		}
	}
}

func TestLinesOnAWire(t *testing.T) {
	w, _ := Join(desk(t, "demand\n"), desk(t, ""))
	for _, k := range []struct {
		side int
		text string
		want []api.Out
	}{
		{0, "up", []api.Out{{Kind: api.ODial}, {Kind: api.OTell, Text: "ok"}}},
		{1, "down", []api.Out{{Kind: api.OHang}, {Kind: api.OTell, Text: "ok"}}},
		{0, "", []api.Out{{Kind: api.OTell}}},
		{1, "foo", []api.Out{{Kind: api.OTell, Text: "error 51"}}},
		{0, strings.Repeat("x", 1<<20), []api.Out{{Kind: api.OTell, Text: "error 4"}}},
	} {
		if l, e := w.Do(Act{Kind: Line, Side: k.side, Text: k.text}); e != api.OK || !sameOuts(l, k.want) {
			t.Errorf("%.20q %v %v", k.text, l, e)
		}
	}
}

func TestRandomOnAWire(t *testing.T) {
	first := func(acts ...Act) string {
		w, _ := Join(desk(t, ""), desk(t, ""))
		plays(t, w, acts...)
		plays(t, w, Act{Kind: Modem, N: 1}, Act{Kind: Modem, Side: 1, N: 1})
		return string(w.Waits(1)) + "|" + string(w.Waits(0))
	}
	a, b := first(), first(Act{Kind: Random, N: 1 << 40})
	c := first(Act{Kind: Random, Side: 1, N: 1 << 40})
	if a == b || a == c || b == c || strings.Split(a, "|")[1] != strings.Split(b, "|")[1] || first(Act{Kind: Random, N: 5}, Act{Kind: Random, N: 5}) != a {
		t.Error("draws")
	}
}

// echoing is a desk whose script answers x with what it is told to say.
func echoing(t *testing.T, say string) *Desk {
	t.Helper()
	return desk(t, "connect \"'' '' '' '"+say+"' x\"")
}

func TestBytesOnAWire(t *testing.T) {
	w, e := Join(desk(t, "demand\n"), desk(t, "demand\n"))
	if e != api.OK {
		t.Fatal(e)
	}
	waits := func(side int, want string) {
		t.Helper()
		if got := string(w.Waits(side)); got != want {
			t.Fatalf("%q instead of %q", got, want)
		}
	}
	lost := func(side int, want string) {
		t.Helper()
		if l, e := w.Do(Act{Kind: Line, Side: side, Text: "counters"}); e != api.OK || l[0].Text != "in 0 0 0 out 0 0 0 lost 0 "+want {
			t.Fatal(l, e)
		}
	}
	plays(t, w, Act{Kind: Put, Side: 1, B: []byte("def")}, Act{Kind: Put, Side: 1, B: []byte("abc")}, Act{Kind: Put, Side: 1}, Act{Kind: Put, B: []byte("xyz")})
	waits(1, "abcdef")
	waits(0, "xyz")
	plays(t, w, Act{Kind: Turn, Side: 1, N: 0}, Act{Kind: Turn, Side: 1, N: 15}, Act{Kind: Turn, Side: 1, N: 43}, Act{Kind: Turn, Side: 1, N: 48}, Act{Kind: Turn, Side: 1, N: math.MaxInt64})
	waits(1, "`\xe2cden")
	plays(t, w, Act{Kind: Turn, Side: 1, N: 0}, Act{Kind: Turn, Side: 1, N: 15}, Act{Kind: Turn, Side: 1, N: 43}, Act{Kind: Turn, N: 24})
	waits(1, "abcdef")
	waits(0, "xyz")
	plays(t, w, Act{Kind: Drop, Side: 1, N: 2}, Act{Kind: Drop, Side: 1, N: 0})
	waits(1, "cdef")
	lost(1, "0")
	plays(t, w, Act{Kind: Carry, Side: 1, N: 0})
	lost(1, "0")
	plays(t, w, Act{Kind: Carry, Side: 1, N: 3})
	waits(1, "f")
	lost(1, "3")
	plays(t, w, Act{Kind: Carry, Side: 1, N: math.MaxInt64}, Act{Kind: Carry, Side: 1, N: 5}, Act{Kind: Drop, Side: 1, N: 5}, Act{Kind: Turn, Side: 1, N: 0})
	waits(1, "")
	waits(0, "xyz")
	lost(1, "4")
	plays(t, w, Act{Kind: Drop, N: math.MaxInt64})
	waits(0, "")
	lost(0, "0")
}

func TestHowMuchMayWait(t *testing.T) {
	w, _ := Join(desk(t, ""), desk(t, ""))
	great := bytes.Repeat([]byte("x"), api.MaxRing)
	for range 16 {
		plays(t, w, Act{Kind: Put, Side: 1, B: great})
	}
	if l, e := w.Do(Act{Kind: Put, Side: 1, B: []byte("y")}); len(l) != 0 || e != api.ErrSize || len(w.Waits(1)) != 16*api.MaxRing {
		t.Error(l, e)
	}
	plays(t, w, Act{Kind: Put, Side: 1}, Act{Kind: Put, B: great}, Act{Kind: Drop, Side: 1, N: 1}, Act{Kind: Put, Side: 1, B: []byte("y")})
	if l, e := w.Do(Act{Kind: Put, Side: 1, B: []byte("y")}); len(l) != 0 || e != api.ErrSize || len(w.Waits(1)) != 16*api.MaxRing || w.Waits(1)[0] != 'y' {
		t.Error(l, e)
	}
}

func TestWhatDesksPutOnTheirLines(t *testing.T) {
	w, _ := Join(echoing(t, "one"), echoing(t, "two"))
	if string(w.Waits(0)) != "\rtwo\r" || string(w.Waits(1)) != "\rone\r" {
		t.Fatal(w.Waits(0), w.Waits(1))
	}
	l, e := w.Do(Act{Kind: Put, Side: 1, B: []byte("x")})
	if len(l) != 0 || e != api.OK || string(w.Waits(1)) != "x\rone\r" {
		t.Error(l, e)
	}
	l, e = w.Do(Act{Kind: Carry, Side: 1, N: 1}) // the script ends, the link begins
	if b := w.Waits(0); len(l) != 0 || e != api.OK || !strings.HasPrefix(string(b), "\rtwo\r\x7e\xff") || len(frames(b)) != 1 {
		t.Error(l, e)
	}
}

func TestAFlowHasAnEnd(t *testing.T) {
	const restless = "connect \"ABORT x '' x OK\"\nholdoff 0\nmaxfail 0\n" // it says x whenever it hears one
	for _, k := range []struct {
		acts []Act
		want int
	}{
		{nil, 1000},
		{[]Act{{Kind: Drop, N: 9}}, 999}, // at the first time nothing waits for that side
		{[]Act{{Kind: Drop, Side: 1, N: 9}}, 1000},
		{[]Act{{Kind: Drop, N: 9}, {Kind: Drop, Side: 1, N: 9}}, 0},
	} {
		w, _ := Join(desk(t, restless), desk(t, restless))
		plays(t, w, k.acts...)
		l, e := w.Do(flow)
		hangs := 0
		for _, o := range l {
			if o.Kind == api.OHang {
				hangs++
			}
		}
		if e != api.OK || hangs != k.want || len(l) != 2*hangs {
			t.Error(k.acts, hangs, len(l), e)
		}
	}
}

func TestPlay(t *testing.T) {
	_, b, w := pair(t, "")
	e, at := w.Play([]Act{{Kind: Packet, B: four(tcp, 1)}, {Kind: Tick, N: 5}, {Kind: Packet, B: nil}, {Kind: Packet, B: four(tcp, 2)}})
	if e != api.ErrIp || at != 2 || !sameLists(w.Taken(0), [][]byte{four(tcp, 1)}) {
		t.Error(e, at)
	}
	says(t, b, "now", "5")
	if e, at := w.Play(nil); e != api.OK || at != 0 {
		t.Error(e, at)
	}
	if e, at := w.Play([]Act{{}}); e != api.ErrEvent || at != 0 {
		t.Error(e, at)
	}
	plays(t, w, slices.Repeat([]Act{{Kind: Tick, N: 5}}, 3*api.MaxScript)...) // a list of acts has no bound
}

func TestAWireSharesNothing(t *testing.T) {
	_, _, w := pair(t, "")
	b := four(tcp, 1)
	plays(t, w, Act{Kind: Packet, B: b})
	b[0] = 0x50
	spoil := func(b []byte) {
		for i := range b {
			b[i] ^= 0xff
		}
	}
	spoil(w.Waits(1))
	text := []byte("~~")
	plays(t, w, Act{Kind: Put, Side: 1, B: text})
	spoil(text)
	l, e := w.Do(flow)
	if e != api.OK || len(l) != 1 {
		t.Fatal(l, e)
	}
	spoil(l[0].B)
	for _, told := range [][][]byte{w.Taken(0), w.Told(1)} {
		spoil(told[0])
		_ = append(told[0], 1)
		told[0] = nil
	}
	if !sameLists(w.Taken(0), [][]byte{four(tcp, 1)}) || !sameLists(w.Told(1), [][]byte{four(tcp, 1)}) {
		t.Error(w.Taken(0), w.Told(1))
	}
}

// P30.8

// same holds two wires against one another.
func same(t *testing.T, a, b *Wire) {
	t.Helper()
	for side := range 2 {
		if !bytes.Equal(a.Waits(side), b.Waits(side)) || !sameLists(a.Taken(side), b.Taken(side)) || !sameLists(a.Told(side), b.Told(side)) {
			t.Fatal("something else waits, was taken or told")
		}
		sameDesks(t, a.ends[side].desk, b.ends[side].desk)
	}
}

// sameDesks holds what two desks tell against one another.
func sameDesks(t *testing.T, a, b *Desk) {
	t.Helper()
	for _, line := range []string{"status", "why", "addrs", "who", "counters", "rates", "queue", "failures", "now", "next", "conf"} {
		x, _ := a.Line(line)
		y, _ := b.Line(line)
		if x != y {
			t.Fatal(line, x, y)
		}
	}
}

func TestAFlowIsCarries(t *testing.T) {
	for seed := range chance(150) {
		d, e := seed+1, seed+1
		v, w := d.world(t), e.world(t)
		for range 40 {
			x := d.act(v)
			e.act(w)
			if x.Kind != Flow {
				v.Do(x)
				w.Do(x)
				continue
			}
			got, _ := v.Do(x)
			var want []api.Out
			for i := 0; i < 1000 && len(w.Waits(0))+len(w.Waits(1)) > 0; i++ {
				l, _ := w.Do(Act{Kind: Carry, Side: i % 2, N: int64(len(w.Waits(i % 2)))})
				want = append(want, l...)
			}
			if !sameOuts(got, want) {
				t.Fatal(got, want)
			}
		}
		same(t, v, w)
	}
}

func TestBytesInPieces(t *testing.T) {
	for seed := range chance(200) {
		d := seed + 1
		more := one(&d, "", "deflate 12\n", "ipv6\n", "require-chap\n", "asyncmap 0\n")
		_, _, v := pair(t, more, "alice mill x\nmill alice x")
		_, _, w := pair(t, more, "alice mill x\nmill alice x")
		for range 6 {
			for range d.next(6) {
				x := Act{Kind: Packet, Side: d.next(2), B: d.packet()}
				v.Do(x)
				w.Do(x)
			}
			side := d.next(2)
			n := len(v.Waits(side))
			got, _ := v.Do(Act{Kind: Carry, Side: side, N: int64(n)})
			var want []api.Out
			for n > 0 {
				some := min(1+d.next(one(&d, 3, 40, 400)), n)
				l, _ := w.Do(Act{Kind: Carry, Side: side, N: int64(some)})
				want = append(want, l...)
				n -= some
			}
			if !sameOuts(got, want) {
				t.Fatal(got, want)
			}
			same(t, v, w)
		}
	}
}

func TestBytesInPiecesFromTheStart(t *testing.T) {
	for seed := range chance(200) {
		d := seed + 1
		more := one(&d, "", "ipv6\n") + one(&d, "", "require-pap\n", "require-chap\n", "require-eap\n") + one(&d, "", "asyncmap 0\n", "mru 200\n")
		secrets := []string{"alice mill x", "mill alice x"}
		v, w := joined(t, desk(t, mill+more, secrets...), desk(t, alice+more, secrets...)), joined(t, desk(t, mill+more, secrets...), desk(t, alice+more, secrets...))
		for range d.next(9) {
			x := Act{Kind: Packet, Side: d.next(2), B: d.packet()}
			v.Do(x)
			w.Do(x)
		}
		plays(t, v, flow)
		for len(w.Waits(0))+len(w.Waits(1)) > 0 {
			plays(t, w, Act{Kind: Carry, Side: d.next(2), N: int64(1 + d.next(one(&d, 3, 40, 400)))})
		}
		for side := range 2 { // packets of both networks may come in another order among them
			for _, version := range []byte{4, 6} {
				if !sameLists(ofVersion(v.Told(side), version), ofVersion(w.Told(side), version)) || !sameLists(v.Taken(side), w.Taken(side)) {
					t.Fatal(more, v.Told(side), w.Told(side))
				}
			}
			sameDesks(t, v.ends[side].desk, w.ends[side].desk)
		}
	}
}
