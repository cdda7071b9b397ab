package link

import (
	"bytes"
	"slices"
	"strconv"
	"strings"
	"testing"

	"tether/api"
	"tether/conf"
	"tether/hdlc"
	"tether/meter"
	"tether/opt"
	"tether/phase"
)

// chance is a chain of numbers that are the same at each run.
type chance uint64

func (d *chance) next(below int) int {
	*d = *d*6364136223846793005 + 1442695040888963407
	return int(uint64(*d)>>33) % below
}

// one answers one of a few.
func one[T any](d *chance, l ...T) T {
	return l[d.next(len(l))]
}

func (d *chance) bytes(n int) []byte {
	out := make([]byte, n)
	for i := range out {
		out[i] = byte(d.next(one(d, 2, 16, 256)))
	}
	return out
}

// conf draws a configuration that can be; mean ones have little patience.
func (d *chance) conf(t *testing.T, name, other string) api.Conf {
	c := conf.Default()
	c.Name = name
	c.Remote = one(d, "", other, other)
	c.Require = one(d, 0, 0, api.MPap, api.MChap, api.MEap)
	c.Accept = one(d, c.Accept, c.Accept, []int{api.MPap}, []int{api.MEap, api.MChap}, nil)
	c.Mru = one(d, 1500, 1500, 64, 296, api.MaxMru)
	c.Asyncmap = one[int64](d, 1<<32-1, 0, 0xa0000)
	c.Pfc, c.Acfc, c.Magic = d.next(3) > 0, d.next(3) > 0, d.next(3) > 0
	c.LocalIp = one[int64](d, 0, 0x0a000001, 0x0a000001, 0x0a000002)
	c.UseDns = d.next(2) == 0
	if d.next(2) == 0 {
		c.Dns1, c.Dns2 = 0x08080808, one[int64](d, 0, 0x09090909)
	}
	if d.next(2) == 0 {
		c.Ipv6, c.LocalId = true, one[uint64](d, 0, 0, 5, 6)
	}
	c.Deflate, c.Bsd = one(d, 0, 0, 8, 12, 15), one(d, 0, 0, 9, 12)
	c.Restart = one[int64](d, 1, 20, 3000)
	c.MaxConfigure, c.MaxTerminate, c.MaxFailure = one(d, 1, 3, 10), one(d, 1, 2), one(d, 1, 2, 5)
	c.EchoEvery, c.EchoFail = one[int64](d, 0, 0, 15, 5000), one(d, 1, 3)
	c.Rechallenge = one[int64](d, 0, 0, 25, 4000)
	if e, word := conf.Right(c); e != api.OK {
		t.Fatal(word)
	}
	return c
}

// secrets draws those of both ends; words may differ.
func (d *chance) secrets() []api.Secret {
	word := func() string { return one(d, "x", "x", "x", "x", "y", "") }
	l := []api.Secret{
		{Client: "alice", Server: "mill", Word: word(), Addrs: one(d, nil, nil, []int64{0x0a000001}, []int64{0x0a000002, 0x0a000007})},
		{Client: "mill", Server: one(d, "alice", "*"), Word: word()},
	}
	if d.next(5) == 0 {
		l = l[:1]
	}
	if d.next(3) == 0 {
		l = append(l, api.Secret{Client: "*", Server: "*", Word: "x"})
	}
	return l
}

// end is a link, its model, and a line by which the model's frames come.
type end struct {
	l     *Link
	m     *model
	line  *hdlc.Line
	sent  []api.Packet // control packets that went, and the protocols of these
	proto []int
	spy   *hdlc.Line
}

func newEnd(t *testing.T, c api.Conf, l []api.Secret, give int64, seed uint64) *end {
	t.Helper()
	k, e := New(c, l, give, seed)
	if e != api.OK {
		t.Fatal(e)
	}
	return &end{l: k, m: newModel(c, l, give, seed), line: hdlc.New(api.MaxMru, 0, true, true), spy: hdlc.New(api.MaxMru, 0, true, true)}
}

// does lets a call be done by both, and holds them against one another.
func (k *end) does(t *testing.T, name string, now int64, b []byte) ([]api.Out, api.Errno) {
	t.Helper()
	var frames []api.Frame
	dead := k.l.Phase() == phase.Dead
	timely := now >= k.m.now && now <= api.MaxTime
	if name == "feed" && !dead && timely {
		frames = k.line.Feed(b)
	}
	if timely && (name == "open" && dead || name == "lost") {
		k.line.Reset()
	}
	want, wrong := k.m.call(name, now, frames, b)
	got, e := map[string]func(int64, []byte) ([]api.Out, api.Errno){
		"open":  func(now int64, _ []byte) ([]api.Out, api.Errno) { return k.l.Open(now) },
		"close": func(now int64, _ []byte) ([]api.Out, api.Errno) { return k.l.Close(now) },
		"lost":  func(now int64, _ []byte) ([]api.Out, api.Errno) { return k.l.Lost(now) },
		"tick":  func(now int64, _ []byte) ([]api.Out, api.Errno) { return k.l.Tick(now) },
		"feed":  k.l.Feed,
		"send":  k.l.Send,
	}[name](now, bytes.Clone(b))
	if e != wrong || !sameOuts(got, want) {
		t.Fatal(name, now, frames, "answered", told(got), e, "instead of", told(want), wrong)
	}
	k.compare(t, name)
	for _, o := range got {
		if o.Kind == api.OSerial {
			for _, f := range k.spy.Feed(o.B) {
				if p, e := opt.Unpack(f.Info); e == api.OK && f.Proto >= 0x8000 {
					k.sent, k.proto = append(k.sent, p), append(k.proto, f.Proto)
				}
			}
		}
	}
	return got, e
}

// compare asks what both tell of themselves.
func (k *end) compare(t *testing.T, name string) {
	t.Helper()
	l, m := k.l, k.m
	if l.Phase() != m.ph.At() || l.Who() != m.who() || l.Dropped() != m.dropped || l.Line() != k.line.Counts() {
		t.Fatal(name, phase.Name(l.Phase()), phase.Name(m.ph.At()), l.Who(), m.who(), l.Dropped(), m.dropped, l.Line(), k.line.Counts())
	}
	for _, n := range []int{0xc021, 0x8021, 0x8057, 0x80fd, 0xc023, 0xc223, 0xc227, 0x21, 0, -1} {
		if l.State(n) != m.state(n) {
			t.Fatal(name, n, l.State(n), m.state(n))
		}
	}
	if at, e := l.Next(); e != api.OK && (at != 0 || e != api.ErrNone || m.next() != -1) || e == api.OK && at != m.next() {
		t.Fatal(name, at, e, m.next())
	}
	var a, b int64
	ip, ip6 := m.state(0x8021) == 9, m.state(0x8057) == 9
	if ip {
		a, b = m.ipMine.Addr, max(m.ipTheirs.Addr, 0)
	}
	var i, j uint64
	if ip6 {
		i, j = m.ip6Mine, m.ip6Theirs
	}
	x, y := l.Addrs()
	v, w := l.Ids()
	p, q := l.Ready()
	if x != a || y != b || v != i || w != j || p != ip || q != ip6 {
		t.Fatal(name, x, y, a, b, v, w, i, j, p, q)
	}
	for i, out := range []bool{false, true} {
		if got := l.Counts(out); got != (meter.Counts{Packets: m.packets[i], Bytes: m.bytes[i], Wire: m.wire[i]}) {
			t.Fatal(name, got, m.packets, m.bytes, m.wire)
		}
	}
}

func sameOuts(a, b []api.Out) bool {
	return slices.EqualFunc(a, b, func(x, y api.Out) bool {
		return x.Kind == y.Kind && bytes.Equal(x.B, y.B) && x.Text == y.Text
	})
}

// told answers what was put out, as text.
func told(l []api.Out) string {
	var parts []string
	for _, o := range l {
		line := hdlc.New(api.MaxMru, 0, true, true)
		for _, f := range line.Feed(o.B) {
			parts = append(parts, strconv.FormatInt(int64(f.Proto), 16)+" "+hexOf(f.Info))
		}
		if o.Kind != api.OSerial {
			parts = append(parts, "out "+hexOf(o.B))
		}
	}
	return "[" + strings.Join(parts, ", ") + "]"
}

func hexOf(b []byte) string {
	var s strings.Builder
	for _, c := range b {
		s.WriteString(strconv.FormatInt(int64(c)+256, 16)[1:])
	}
	return s.String()
}

// mean makes a frame that may do harm: an answer to what was sent, or anything.
func (d *chance) mean(k *end) []byte {
	f := api.Frame{Proto: one(d, 0xc021, 0xc021, 0x8021, 0x8057, 0x80fd, 0xc023, 0xc223, 0xc227, 0x21, 0x57, 0xfd, 0x8029, 0x2b)}
	p := api.Packet{Code: d.next(17), Id: d.next(12), Data: d.bytes(d.next(one(d, 1, 9, 40, 400)))}
	if len(k.sent) > 0 && d.next(4) > 0 {
		i := max(len(k.sent)-1-d.next(6), 0)
		f.Proto, p.Id = k.proto[i], k.sent[i].Id
		switch code := k.sent[i].Code; {
		case code == 1 && f.Proto != 0xc223 && f.Proto != 0xc227 && f.Proto != 0xc023:
			p.Code = one(d, 2, 2, 2, 3, 4)
			p.Data = d.less(k.sent[i].Data, p.Code)
		case d.next(3) == 0:
			p.Code, p.Data = code, k.sent[i].Data
		}
	}
	if d.next(4) == 0 {
		p.Code, p.Data = 1, d.options()
	}
	b, _ := opt.Pack(p)
	if d.next(10) == 0 {
		b = d.bytes(d.next(30))
	}
	f.Info = append(b, d.bytes(one(d, 0, 0, 0, 3))...)
	s := hdlc.Send{Accm: one[int64](d, 0, 1<<32-1), Pfc: d.next(2) == 0, Acfc: d.next(2) == 0}
	out, _ := hdlc.Encode(f, s)
	return out
}

// less answers the options of a request, or what an answer of a code may have of them.
func (d *chance) less(data []byte, code int) []byte {
	l, _ := opt.Options(data)
	if code == 2 && d.next(8) > 0 {
		return data
	}
	var out []api.Option
	for _, o := range l {
		if d.next(3) > 0 {
			continue
		}
		if code == 3 && len(o.Data) > 0 {
			o.Data = d.bytes(len(o.Data))
		}
		out = append(out, o)
	}
	b, _ := opt.Bytes(out...)
	return b
}

// options draws those of a request.
func (d *chance) options() []byte {
	var l []api.Option
	for range d.next(4) {
		l = append(l, one(d,
			api.Option{Type: 1, Data: []byte{byte(d.next(70)), byte(d.next(256))}},
			api.Option{Type: 2, Data: d.bytes(4)},
			api.Option{Type: 3, Data: []byte{0xc0, byte(0x21 + 2*d.next(3))}},
			api.Option{Type: 3, Data: []byte{0xc2, 0x23, 5}},
			api.Option{Type: 3, Data: []byte{10, 0, 0, byte(d.next(3))}},
			api.Option{Type: 5, Data: d.bytes(4)},
			api.Option{Type: 7}, api.Option{Type: 8},
			api.Option{Type: 1, Data: d.bytes(8)},
			api.Option{Type: 26, Data: []byte{byte(d.next(8))<<4 | 8, 0}},
			api.Option{Type: 21, Data: []byte{32 + byte(9+d.next(7))}},
			api.Option{Type: 129, Data: []byte{8, 8, 8, 8}}))
	}
	b, _ := opt.Bytes(l...)
	return b
}

// packet draws one of IP, or IPv6, or none.
func (d *chance) packet() []byte {
	b := d.bytes(1 + d.next(one(d, 8, 64, 300, 1600)))
	b[0] = one[byte](d, 0x45, 0x45, 0x60, 0x60, 0x50)
	return b[:one(d, len(b), len(b), len(b), len(b), 0)]
}

// world is two ends, and what waits on the wire for each.
type world struct {
	ends [2]*end
	wire [2][]byte
	now  int64
}

func (w *world) does(t *testing.T, side int, name string, b []byte) api.Errno {
	t.Helper()
	out, e := w.ends[side].does(t, name, w.now, b)
	for _, o := range out {
		if o.Kind == api.OSerial {
			w.wire[1-side] = append(w.wire[1-side], o.B...)
		}
	}
	return e
}

// carry lets the first bytes that wait for a side come to it.
func (w *world) carry(t *testing.T, side, n int) {
	t.Helper()
	n = min(n, len(w.wire[side]))
	b := w.wire[side][:n:n]
	w.wire[side] = w.wire[side][n:]
	w.does(t, side, "feed", b)
}

// flow lets all come that waits, till nothing does.
func (w *world) flow(t *testing.T) {
	t.Helper()
	for range 200 {
		if len(w.wire[0])+len(w.wire[1]) == 0 {
			return
		}
		w.carry(t, 0, len(w.wire[0]))
		w.carry(t, 1, len(w.wire[1]))
	}
}

// step does something.
func (w *world) step(t *testing.T, d *chance, mean int) {
	t.Helper()
	side := d.next(2)
	k := w.ends[side]
	switch n := d.next(24 + 4*mean); {
	case n < 6:
		w.flow(t)
	case n < 10:
		w.carry(t, side, d.next(200))
	case n < 13:
		w.now += int64(d.next(one(d, 2, 30, 3100)))
		if at, e := k.l.Next(); e == api.OK && d.next(2) == 0 {
			w.now = max(w.now, at)
		}
		w.does(t, 0, "tick", nil)
		w.does(t, 1, "tick", nil)
	case n < 16:
		w.does(t, side, "send", d.packet())
	case n < 19:
		w.does(t, side, "open", nil)
	case n == 19 && d.next(10) == 0:
		w.does(t, side, "close", nil)
	case n == 20 && d.next(10) == 0:
		w.does(t, side, "lost", nil)
		w.wire = [2][]byte{}
	case n == 21 && mean > 0 && len(w.wire[side]) > 0:
		w.wire[side] = slices.Clone(w.wire[side])
		at := d.next(len(w.wire[side]))
		if d.next(2) == 0 {
			w.wire[side] = slices.Delete(w.wire[side], at, min(at+d.next(60), len(w.wire[side])))
		} else {
			w.wire[side][at] ^= 1 << d.next(8)
		}
	case n == 22:
		x := uint64(d.next(1 << 30))
		k.l.Random(x)
		k.m.x ^= x
	case mean > 0:
		w.does(t, side, "feed", d.mean(k))
	}
}

// newWorld draws one.
func (d *chance) newWorld(t *testing.T) *world {
	w := &world{}
	l := d.secrets()
	for i, name := range []string{"mill", "alice"} {
		other := []string{"alice", "mill"}[i]
		w.ends[i] = newEnd(t, d.conf(t, name, other), l, one[int64](d, 0, 0, 0x0a000002, 0x0a000007), uint64(d.next(1<<31)))
	}
	return w
}

func TestAsTheModelHasIt(t *testing.T) {
	met := map[string]int{}
	for seed := range chance(1500) {
		d := seed + 1
		w := d.newWorld(t)
		for range 150 {
			w.step(t, &d, int(seed)%4)
			for _, k := range w.ends {
				met[phase.Name(k.l.Phase())]++
				for name, n := range map[string]int{"ip": api.PIpcp, "ipv6": api.PIpv6cp, "comp": api.PCcp} {
					if k.l.State(n) == api.SOpened {
						met[name]++
					}
				}
				if k.l.Who() != "" {
					met["who"]++
				}
			}
		}
	}
	for _, name := range []string{"Dead", "Establish", "Authenticate", "Network", "Terminate", "ip", "ipv6", "comp", "who"} {
		if met[name] < 1000 {
			t.Error(name, met[name])
		}
	}
}
