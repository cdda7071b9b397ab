package link

import (
	"bytes"
	"slices"
	"testing"

	"tether/api"
	"tether/auto"
	"tether/conf"
	"tether/hdlc"
	"tether/opt"
	"tether/phase"
)

// ofNetworks tells whether frames of a protocol are a network's.
func ofNetworks(proto int) bool {
	return !slices.Contains([]int{api.PLcp, api.PPap, api.PChap, api.PEap}, proto)
}

// frameOf answers the frame that was put on the line.
func frameOf(t *testing.T, o api.Out) api.Frame {
	t.Helper()
	l := hdlc.New(api.MaxMru, 0, true, true).Feed(o.B)
	if len(l) != 1 {
		t.Fatal(o)
	}
	return l[0]
}

// seen is a call at an end, and the states ahead of it.
type seen struct {
	k      *end
	phase  int
	states map[int]int
	out    []api.Out
}

func statesOf(l *Link) map[int]int {
	out := map[int]int{}
	for _, n := range []int{api.PLcp, api.PIpcp, api.PIpv6cp, api.PCcp} {
		out[n] = l.State(n)
	}
	return out
}

// watch plays drawn worlds, one frame at a time, and shows each call.
func watch(t *testing.T, seed chance, worlds int, see func(s seen)) {
	t.Helper()
	d := seed
	for range worlds {
		w := d.newWorld(t)
		if d.next(2) == 0 {
			w = d.joined(t)
		}
		queues := [2][][]byte{}
		calm := d.next(2) == 0
		does := func(side int, name string, b []byte) {
			k := w.ends[side]
			s := seen{k: k, phase: k.l.Phase(), states: statesOf(k.l)}
			s.out, _ = k.does(t, name, w.now, b)
			for _, o := range s.out {
				if o.Kind == api.OSerial && (calm || d.next(60) > 0) { // some are lost
					queues[1-side] = append(queues[1-side], o.B)
				}
			}
			see(s)
		}
		for range 250 {
			side := d.next(2)
			switch n := d.next(20); {
			case n < 12 && len(queues[side]) > 0:
				b := queues[side][0]
				queues[side] = queues[side][1:]
				does(side, "feed", b)
			case n < 13 && !calm:
				does(side, "feed", d.mean(w.ends[side]))
			case n < 14:
				w.now += int64(d.next(one(&d, 2, 30, 3100)))
				does(0, "tick", nil)
				does(1, "tick", nil)
			case n < 16:
				does(side, "send", d.packet())
			case n < 17:
				does(side, one(&d, "open", "open", "open", "open", "open", "open", "open", "open", "open", "close", "lost"), nil)
			default:
				does(side, "open", nil)
			}
		}
	}
}

// P27.4

func TestNothingPassesAheadOfItsTime(t *testing.T) {
	delivered, networks := 0, 0
	watch(t, 11, 500, func(s seen) {
		l := s.k.l
		for _, o := range s.out {
			network := o.Kind == api.OTun || ofNetworks(frameOf(t, o).Proto)
			if network && s.phase != phase.Network && l.Phase() != phase.Network {
				t.Fatal(told(s.out))
			}
			if o.Kind == api.OTun {
				delivered++
				if s.phase != phase.Network {
					t.Fatal(told(s.out))
				}
			}
		}
		if l.Phase() == phase.Network && s.k.m.c.Require != 0 {
			networks++
			if l.Who() == "" {
				t.Fatal("nobody has proved it")
			}
		}
	})
	if delivered < 100 || networks < 1000 {
		t.Error(delivered, networks)
	}
}

func TestNobodyWhoHasNotProvedItSeesANetwork(t *testing.T) {
	for _, method := range []int{api.MPap, api.MChap, api.MEap} {
		d := chance(method)
		for range 100 {
			c := d.conf(t, "mill", "alice")
			c.Require = method
			k := newEnd(t, c, []api.Secret{{Client: "alice", Server: "mill", Word: "not to be guessed"}, {Client: "mill", Server: "*", Word: "x"}}, 0, 1)
			now := int64(0)
			for range 200 {
				name, b := "feed", d.mean(k)
				if d.next(6) == 0 {
					name = one(&d, "tick", "tick", "lost")
					now += int64(d.next(100))
				}
				if k.l.Phase() == phase.Dead {
					name = "open"
				}
				if out, _ := k.does(t, name, now, b); k.l.Phase() == phase.Network || slices.ContainsFunc(out, func(o api.Out) bool {
					return o.Kind == api.OTun || ofNetworks(frameOf(t, o).Proto)
				}) {
					t.Fatal(told(out))
				}
			}
		}
	}
}

// P27.5

// leads tells whether at most so many events lead from a state to another one and send just those codes.
func leads(from, to int, codes []int, most int) bool {
	if from == to && len(codes) == 0 {
		return true
	}
	if most == 0 {
		return false
	}
	for event := api.EUp; event <= api.ERXR; event++ {
		next, actions, e := auto.Next(from, event)
		if e != api.OK {
			continue
		}
		sends := auto.Sends(actions...)
		if len(sends) <= len(codes) && slices.Equal(sends, codes[:len(sends)]) && leads(next, to, codes[len(sends):], most-1) {
			return true
		}
	}
	return false
}

func TestControlPacketsAreThoseOfTheTable(t *testing.T) {
	sent := map[int]int{}
	watch(t, 12, 400, func(s seen) {
		codes := map[int][]int{}
		for _, o := range s.out {
			if o.Kind != api.OSerial {
				continue
			}
			f := frameOf(t, o)
			p, e := opt.Unpack(f.Info)
			if _, is := s.states[f.Proto]; !is {
				continue
			}
			if e != api.OK {
				t.Fatal(told(s.out))
			}
			sent[p.Code]++
			switch p.Code {
			case api.CConfRej: // the same action as a Nak's
				codes[f.Proto] = append(codes[f.Proto], api.CConfNak)
			case api.CProtRej, api.CEchoReq:
				if f.Proto != api.PLcp {
					t.Fatal(told(s.out))
				}
			case api.CResetReq, api.CResetAck:
				if f.Proto != api.PCcp {
					t.Fatal(told(s.out))
				}
			default:
				codes[f.Proto] = append(codes[f.Proto], p.Code)
			}
		}
		for n, state := range s.states {
			to := s.k.l.State(n)
			if state > api.SStarting && n == api.PLcp && s.phase == phase.Dead && s.k.l.Phase() != phase.Dead {
				state = api.SInitial // another automaton
			}
			if !leads(state, to, codes[n], 3) {
				t.Fatal(n, state, to, told(s.out))
			}
		}
	})
	for _, code := range []int{1, 2, 3, 4, 5, 6, 7, 8, 9, 10} {
		if sent[code] < 20 {
			t.Error(code, sent)
		}
	}
}

// P27.6

// together draws two configurations that go together, and the secrets of both.
func (d *chance) together(t *testing.T) (a, b api.Conf, l []api.Secret) {
	t.Helper()
	both := func(name, other string, addr int64) api.Conf {
		c := d.conf(t, name, other)
		c.Accept = conf.Default().Accept
		c.LocalIp = addr
		c.MaxFailure = 5
		c.Restart = 3000
		return c
	}
	a, b = both("mill", "alice", 0x0a000001), both("alice", "mill", 0x0a000002)
	l = []api.Secret{{Client: "alice", Server: "mill", Word: "x"}, {Client: "mill", Server: "alice", Word: "y", Addrs: []int64{0x0a000001}}}
	if a.Ipv6 && b.Ipv6 && a.LocalId == b.LocalId && a.LocalId != 0 {
		b.LocalId += 7
	}
	if b.Require == api.MPap { // a word can be looked for by names alone
		a.Remote = "alice"
	}
	if a.Require == api.MPap {
		b.Remote = "mill"
	}
	return a, b, l
}

func (d *chance) joined(t *testing.T) *world {
	t.Helper()
	a, b, l := d.together(t)
	seed := uint64(d.next(1 << 30))
	return &world{ends: [2]*end{newEnd(t, a, l, one[int64](d, 0, 0x0a000002), seed), newEnd(t, b, l, one[int64](d, 0, 0x0a000001), seed+1)}}
}

// isUp asks that both are in Network, with IP in Opened.
func (w *world) isUp(t *testing.T) {
	t.Helper()
	for i, k := range w.ends {
		ip, ip6 := k.l.Ready()
		both := w.ends[0].m.c.Ipv6 && w.ends[1].m.c.Ipv6
		if k.l.Phase() != phase.Network || !ip || ip6 != both {
			t.Fatal(i, phase.Name(k.l.Phase()), ip, ip6, k.m.c, w.ends[1-i].m.c)
		}
		mine, theirs := k.l.Addrs()
		if mine != int64(0x0a000001+i) || theirs != int64(0x0a000002-i) {
			t.Fatal(mine, theirs)
		}
		if who := k.l.Who(); (who == "") == (k.m.c.Require != 0) || who != "" && who != []string{"alice", "mill"}[i] {
			t.Fatal(who)
		}
	}
}

func TestTwoLinksComeUpWithoutATimer(t *testing.T) {
	d := chance(13)
	for range 600 {
		w := d.joined(t)
		w.does(t, 0, "open", nil)
		if d.next(2) == 0 {
			w.flow(t) // to nobody yet
			w.wire = [2][]byte{}
			w.does(t, 0, "lost", nil)
			w.does(t, 0, "open", nil)
		}
		w.does(t, 1, "open", nil)
		for range d.next(40) { // in pieces
			w.carry(t, d.next(2), d.next(50))
		}
		w.flow(t)
		w.isUp(t)
	}
}

// P27.7

func TestALinkThatHasLostItsLineCanBeOpenedAnew(t *testing.T) {
	d := chance(14)
	for range 300 {
		w := d.joined(t)
		for range d.next(60) {
			w.step(t, &d, d.next(3))
		}
		w.wire = [2][]byte{}
		for side, k := range w.ends {
			w.does(t, side, "lost", nil)
			if at, e := k.l.Next(); k.l.Phase() != phase.Dead || e != api.ErrNone {
				t.Fatal(k.l.Phase(), at, e)
			}
		}
		w.wire = [2][]byte{}
		for side, k := range w.ends {
			if e := w.does(t, side, "open", nil); e != api.OK || k.l.State(api.PLcp) != api.SReqSent {
				t.Fatal(e, k.l.State(api.PLcp))
			}
		}
		w.flow(t)
		w.isUp(t)
	}
}

func TestALinkThatHasFinishedCanBeOpenedAnew(t *testing.T) {
	d := chance(15)
	for range 200 {
		w := d.joined(t)
		for range 3 {
			w.does(t, 0, "open", nil)
			w.does(t, 1, "open", nil)
			w.flow(t)
			w.isUp(t)
			w.does(t, d.next(2), "close", nil)
			w.flow(t)
			w.now += 3000 // the end that was asked waits for a while
			w.does(t, 0, "tick", nil)
			w.does(t, 1, "tick", nil)
			w.flow(t)
			for _, k := range w.ends {
				if k.l.Phase() != phase.Dead {
					t.Fatal(phase.Name(k.l.Phase()))
				}
			}
		}
	}
}

// P27.8

func TestWhatOneTakesTheOtherDelivers(t *testing.T) {
	d := chance(16)
	all, packed := 0, int64(0)
	for range 300 {
		w := d.joined(t)
		var taken, delivered [2][][]byte
		does := func(side int, name string, b []byte) {
			out, e := w.ends[side].does(t, name, w.now, b)
			if name == "send" && e == api.OK {
				taken[side] = append(taken[side], b)
			}
			for _, o := range out {
				if o.Kind == api.OTun {
					delivered[1-side] = append(delivered[1-side], o.B)
				} else {
					w.wire[1-side] = append(w.wire[1-side], o.B...)
				}
			}
		}
		carry := func(side, n int) {
			b := w.wire[side][:n:n]
			w.wire[side] = w.wire[side][n:]
			does(side, "feed", b)
		}
		flow := func() {
			for len(w.wire[0])+len(w.wire[1]) > 0 {
				carry(0, len(w.wire[0]))
				carry(1, len(w.wire[1]))
			}
		}
		does(0, "open", nil)
		does(1, "open", nil)
		bothCompress := w.ends[0].l.ccp.here() && w.ends[1].l.ccp.here()
		for range 150 {
			side := d.next(2)
			l := w.ends[side].l
			switch n := d.next(10); {
			case n < 4:
				if ip, ip6 := l.Ready(); (ip || ip6) && (!bothCompress || l.State(api.PCcp) == api.SOpened) {
					does(side, "send", d.packet())
				}
			case n < 9:
				carry(side, d.next(1+min(len(w.wire[side]), 300)))
			default:
				flow()
				w.now += int64(d.next(2000))
				does(0, "tick", nil) // echoes and challenges go out, and are answered
				does(1, "tick", nil)
				flow()
			}
		}
		flow()
		for side := range 2 {
			if !slices.EqualFunc(taken[side], delivered[side], bytes.Equal) {
				t.Fatal(side, len(taken[side]), len(delivered[side]))
			}
			all += len(taken[side])
			c := w.ends[side].l.Counts(true)
			packed += c.Bytes - c.Wire
			if other := w.ends[1-side].l.Counts(false); other != c {
				t.Fatal(c, other)
			}
		}
	}
	if all < 5000 || packed < 10000 {
		t.Error(all, packed)
	}
}

// P1, P2

func TestLinksAreAlikeThatAreToldTheSame(t *testing.T) {
	play := func(other *world) (out [][]byte) {
		d := chance(17)
		w := d.newWorld(t)
		e := chance(3)
		for range 400 {
			w.step(t, &d, 3)
			if other != nil {
				other.step(t, &e, 3)
			}
			out = append(out, bytes.Clone(w.wire[0]), bytes.Clone(w.wire[1]))
		}
		return out
	}
	other := chance(18)
	if !slices.EqualFunc(play(nil), play(other.newWorld(t)), bytes.Equal) {
		t.Error("they are not")
	}
}

func TestBytesOfAnyKind(t *testing.T) {
	d := chance(19)
	for range 300 {
		w := d.joined(t)
		w.does(t, 0, "open", nil)
		w.does(t, 1, "open", nil)
		if d.next(4) > 0 {
			w.flow(t)
		}
		for range 30 {
			b := d.bytes(d.next(400))
			for range d.next(20) {
				if len(b) > 0 {
					b[d.next(len(b))] = one[byte](&d, 0x7e, 0x7d, 0x21, 0xff, 0x03, 0xc0, 0xfd)
				}
			}
			w.does(t, d.next(2), "feed", b)
			body := append(d.bytes(1), d.bytes(d.next(60))...)
			f := api.Frame{Proto: one(&d, 0xc021, 0x8021, 0x8057, 0x80fd, 0xc023, 0xc223, 0xc227, 0x21, 0x57, 0xfd, 0x01, 0xfe01&^0x100), Info: body}
			if line, e := hdlc.Encode(f, hdlc.Send{}); e == api.OK {
				w.does(t, d.next(2), "feed", line)
			}
		}
	}
}
