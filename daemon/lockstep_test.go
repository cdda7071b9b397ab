package daemon

import (
	"bytes"
	"math"
	"slices"
	"strconv"
	"strings"
	"testing"

	"tether/api"
	"tether/hdlc"
	"tether/opt"
	"tether/phase"
	"tether/policy"
)

// chance is a chain of numbers that are the same at each run.
type chance uint64

func (d *chance) next(below int) int {
	*d = *d*6364136223846793005 + 1442695040888963407
	return int(uint64(*d)>>33) % below
}

// one answers one of a few.
func one[T any](d *chance, l ...T) T {
	return l[d.next(len(l))]
}

// options draws those of an end.
func (d *chance) options(name, other, addr string) string {
	l := []string{
		"name " + name,
		one(d, "", "remotename "+other),
		one(d, "", "", "require-pap", "require-chap", "require-eap"),
		one(d, "", "", "accept chap", "accept pap eap"),
		one(d, "", "", "mru 64", "mru 300"),
		one(d, "", "asyncmap 0"),
		one(d, "", "nopfc"), one(d, "", "noaccomp"), one(d, "", "nomagic"),
		one(d, addr+":", addr+":", addr+":", "10.0.0.3:10.0.0.4"),
		one(d, "", "usepeerdns", "ms-dns 8.8.8.8"),
		one(d, "", "ipv6", "ipv6"),
		one(d, "", "", "deflate 9", "bsdcomp 10", "deflate 12\nbsdcomp 12"),
		one(d, "lcp-restart 30ms", "lcp-restart 1", "lcp-restart 3"),
		one(d, "max-configure 3", "max-configure 10"),
		one(d, "", "max-failure 1"),
		one(d, "", "", "echo-interval 40ms\necho-failure 2", "echo-interval 5"),
		one(d, "", "", "chap-interval 70ms"),
		one(d, "", "idle 100ms", "idle 2"),
		one(d, "", "", "maxconnect 150ms", "maxconnect 5"),
		one(d, "holdoff 0", "holdoff 0", "holdoff 50ms", "holdoff 1", "holdoff 30"),
		one(d, "", "persist"), one(d, "", "demand", "demand"),
		one(d, "maxfail 0", "maxfail 1", "maxfail 3", ""),
		one(d, "", "", "filter tcp", "filter \"udp or less 30\"", "filter \"not ip6\""),
		one(d, "", "", "", `connect "ABORT BUSY '' ATZ OK ATD CONNECT"`, `connect "TIMEOUT 1 '' AT OK-AT-OK"`, `connect "REPORT CONNECT SAY hello '' ATD CONNECT ''"`, `connect " "`, `connect "'' ATA"`),
	}
	return strings.Join(l, "\n") + "\n"
}

// secrets draws those of both ends.
func (d *chance) secrets() string {
	word := func() string { return one(d, "x", "x", "x", "y") }
	l := "alice mill " + word() + one(d, "", "", " 10.0.0.2") + "\nmill alice " + word() + "\n"
	if d.next(3) == 0 {
		l += "* * x\n"
	}
	return l
}

// packet draws a packet of IP, of IPv6, or none.
func (d *chance) packet() []byte {
	b := one(d, of4(tcp, 1), of4(udp, 2), of6(3), []byte{0x45, 1}, []byte{0x60}, []byte{0x51}, nil)
	for range d.next(one(d, 1, 1, 20, 400)) {
		b = append(b, byte(d.next(3)))
	}
	return b
}

// end is a daemon, its model, and what its modem would be asked.
type end struct {
	d     *Daemon
	m     *model
	asked bool // it is to dial, or has
}

func (d *chance) newEnd(t *testing.T, options, secrets string) *end {
	t.Helper()
	seed := uint64(d.next(1 << 31))
	k, e, text, at := New(options, secrets, seed)
	if e != api.OK {
		t.Fatal(options, secrets, e, text, at)
	}
	return &end{d: k, m: newModel(options, secrets, seed)}
}

// does lets a call be done by both, and holds them against one another.
func (k *end) does(t *testing.T, name string, e api.Event) ([]api.Out, api.Errno) {
	t.Helper()
	wanted, wrong := k.m.call(name, api.Event{Kind: e.Kind, B: bytes.Clone(e.B), N: e.N})
	want := copies(wanted)
	given := bytes.Clone(e.B)
	var got []api.Out
	var err api.Errno
	switch name {
	case "start":
		got, err = k.d.Start()
	case "up":
		got, err = k.d.Up()
	case "down":
		got, err = k.d.Down()
	default:
		got, err = k.d.Step(e)
	}
	if err != wrong || !sameOuts(got, want) {
		t.Fatal(name, e, "answered", told(got), err, "instead of", told(want), wrong)
	}
	if !bytes.Equal(given, e.B) {
		t.Fatal("what was given is another one")
	}
	k.compare(t, name, e)
	return got, err
}

// compare asks what both tell of themselves.
func (k *end) compare(t *testing.T, name string, e api.Event) {
	t.Helper()
	d, m := k.d, k.m
	state, why := d.Policy()
	packets, lost := d.Lost()
	if state != m.policy.State() || why != m.policy.Why() || d.Failures() != m.policy.Failures() || d.Phase() != m.link.Phase() || d.Who() != m.link.Who() ||
		d.Now() != m.clock || d.Dialling() != (m.run != nil) || d.Queue() != len(m.queue) || packets != m.packets || lost != m.bytes {
		t.Fatal(name, e, state, why, phase.Name(d.Phase()), d.Queue(), packets, lost, "instead of", m.policy.State(), m.policy.Why(), phase.Name(m.link.Phase()), len(m.queue), m.packets, m.bytes)
	}
	a, b := d.Addrs()
	x, y := m.link.Addrs()
	p, q := d.Ready()
	v, w := m.link.Ready()
	if a != x || b != y || p != v || q != w {
		t.Fatal(name, e, a, b, p, q, "instead of", x, y, v, w)
	}
	if at, e := d.Next(); e != api.OK && (at != 0 || e != api.ErrNone || m.next() != -1) || e == api.OK && at != m.next() {
		t.Fatal(name, at, e, m.next())
	}
	for _, out := range []bool{false, true} {
		c, rate, gain := m.numbers(out)
		if d.Counts(out) != c || math.Float64bits(d.Rate(out)) != math.Float64bits(rate) || math.Float64bits(d.Gain(out)) != math.Float64bits(gain) {
			t.Fatal(name, e, d.Counts(out), d.Rate(out), d.Gain(out), "instead of", c, rate, gain)
		}
	}
}

func sameOuts(a, b []api.Out) bool {
	return slices.EqualFunc(a, b, func(x, y api.Out) bool {
		return x.Kind == y.Kind && bytes.Equal(x.B, y.B) && x.Text == y.Text
	})
}

func copies(l []api.Out) []api.Out {
	out := slices.Clone(l)
	for i := range out {
		out[i].B = bytes.Clone(out[i].B)
	}
	return out
}

// told answers what was put out, as text.
func told(l []api.Out) string {
	var parts []string
	for _, o := range l {
		switch o.Kind {
		case api.OSerial:
			parts = append(parts, show(o.B))
		default:
			parts = append(parts, strconv.Itoa(o.Kind)+" "+strconv.Quote(string(o.B)))
		}
	}
	return "[" + strings.Join(parts, ", ") + "]"
}

// world is two ends, and what waits on the wire for each.
type world struct {
	t    *testing.T
	ends [2]*end
	wire [2][]byte
	now  int64
	mean bool
	see  func(s seen) // shown each call
}

// seen is a call at an end, what it answered, and what the end was ahead of it.
type seen struct {
	k      *end
	side   int
	name   string
	e      api.Event
	out    []api.Out
	err    api.Errno
	policy int
	phase  int
	who    string
	states map[int]int // of automata, by protocols
}

// states answers those of all automata.
func (k *end) states() map[int]int {
	out := map[int]int{}
	for _, n := range []int{api.PLcp, api.PIpcp, api.PIpv6cp, api.PCcp} {
		out[n] = k.d.link.State(n)
	}
	return out
}

func (w *world) does(side int, name string, e api.Event) {
	w.t.Helper()
	k := w.ends[side]
	s := seen{k: k, side: side, name: name, e: e, phase: k.d.Phase(), who: k.d.Who(), states: k.states()}
	s.policy, _ = k.d.Policy()
	s.out, s.err = k.does(w.t, name, e)
	for _, o := range s.out {
		switch o.Kind {
		case api.OSerial:
			w.wire[1-side] = append(w.wire[1-side], o.B...)
		case api.ODial:
			k.asked = true
		case api.OHang:
			k.asked = false
		}
	}
	if w.see != nil {
		w.see(s)
	}
}

// carry lets the first bytes that wait for a side come to it.
func (w *world) carry(side, n int) {
	w.t.Helper()
	n = min(n, len(w.wire[side]))
	b := slices.Clone(w.wire[side][:n])
	w.wire[side] = w.wire[side][n:]
	w.does(side, "step", api.Event{Kind: api.VSerial, B: b})
}

// flow lets all come that waits, till nothing does.
func (w *world) flow() {
	w.t.Helper()
	for range 100 {
		if len(w.wire[0])+len(w.wire[1]) == 0 {
			return
		}
		w.carry(0, len(w.wire[0]))
		w.carry(1, len(w.wire[1]))
	}
}

// tick lets the time come at both ends.
func (w *world) tick(d *chance, side int) {
	w.t.Helper()
	w.now += int64(d.next(one(d, 2, 30, 300, 3000)))
	if at, e := w.ends[side].d.Next(); e == api.OK && d.next(2) == 0 {
		w.now = max(w.now, at)
	}
	w.does(0, "step", api.Event{Kind: api.VTick, N: w.now})
	w.does(1, "step", api.Event{Kind: api.VTick, N: w.now})
}

// modem lets a modem do what it is asked, more often than not.
func (w *world) modem(d *chance, side int) {
	w.t.Helper()
	k := w.ends[side]
	switch {
	case k.d.Dialling() && d.next(3) > 0:
		text := one(d, "\r\nOK\r\n", "OK", "CONNECT", "CONNECT 9600\r\n", "OKCONNECT", "BUSY", "O", "hello")
		if d.next(3) == 0 { // and what the other end says behind it
			text += string(w.wire[side])
			w.wire[side] = nil
		}
		w.does(side, "step", api.Event{Kind: api.VSerial, B: []byte(text)})
	case k.asked && d.next(8) > 0:
		w.does(side, "step", api.Event{Kind: api.VModem, N: 1})
	default:
		w.does(side, "step", api.Event{Kind: api.VModem, N: 0})
		w.wire[side] = nil
	}
}

// harm does something to what waits for a side.
func (w *world) harm(d *chance, side int) {
	n := len(w.wire[side])
	if n == 0 {
		return
	}
	b := slices.Clone(w.wire[side])
	switch at := d.next(n); d.next(3) {
	case 0:
		b = slices.Delete(b, at, min(at+d.next(60), n))
	case 1:
		b[at] ^= 1 << d.next(8)
	default:
		b = slices.Insert(b, at, byte(d.next(256)), 0x7e, byte(d.next(256)))
	}
	w.wire[side] = b
}

// frame lets a frame come that may be anything.
func (w *world) frame(d *chance, side int) {
	f := api.Frame{Proto: one(d, 0xc021, 0xc021, 0x8021, 0x8057, 0x80fd, 0xc023, 0xc223, 0xc227, 0x21, 0x57, 0xfd, 0x8029)}
	p := api.Packet{Code: 1 + d.next(16), Id: 1 + d.next(6)}
	for range d.next(one(d, 1, 9, 40)) {
		p.Data = append(p.Data, byte(d.next(one(d, 3, 256))))
	}
	f.Info, _ = opt.Pack(p)
	b, _ := hdlc.Encode(f, hdlc.Send{})
	w.does(side, "step", api.Event{Kind: api.VSerial, B: b})
}

// step does something.
func (w *world) step(d *chance) {
	w.t.Helper()
	side := d.next(2)
	switch n := d.next(30); {
	case n < 7:
		w.flow()
	case n < 9:
		w.carry(side, d.next(100))
	case n < 13:
		w.tick(d, side)
	case n < 18:
		w.does(side, "step", api.Event{Kind: api.VTun, B: d.packet()})
	case n < 24:
		w.modem(d, side)
	case n == 24:
		w.does(side, one(d, "up", "up", "down"), api.Event{})
	case n == 25:
		w.does(side, "step", api.Event{Kind: api.VRandom, N: int64(d.next(1<<30)) << 33})
	case n == 26 && w.mean:
		w.harm(d, side)
	case n == 27 && w.mean:
		w.frame(d, side)
	case n == 28 && d.next(9) == 0:
		w.does(side, one(d, "start", "step"), one(d, api.Event{}, api.Event{Kind: api.VControl}, api.Event{Kind: api.VTick, N: w.now - 1}, api.Event{Kind: api.VModem, N: 2}))
	}
}

// newWorld draws one.
func (d *chance) newWorld(t *testing.T, mean bool) *world {
	secrets := d.secrets()
	w := &world{t: t, mean: mean}
	w.ends[0] = d.newEnd(t, d.options("mill", "alice", "10.0.0.1"), secrets)
	w.ends[1] = d.newEnd(t, d.options("alice", "mill", "10.0.0.2"), secrets)
	return w
}

// starts lets both ends begin.
func (w *world) starts() {
	w.t.Helper()
	w.does(0, "start", api.Event{})
	w.does(1, "start", api.Event{})
}

func TestAsTheModelHasIt(t *testing.T) {
	met := map[string]int{}
	for seed := range chance(1500) {
		d := seed + 1
		w := d.newWorld(t, seed%2 == 1)
		w.does(d.next(2), "step", api.Event{Kind: api.VModem, N: 1}) // ahead of its time
		w.starts()
		for range 150 {
			w.step(&d)
			for _, k := range w.ends {
				k.meets(met)
			}
		}
	}
	for name, n := range map[string]int{"Dead": 5000, "Establish": 5000, "Authenticate": 300, "Network": 5000, "Terminate": 1000, "ip": 5000, "ipv6": 2000, "who": 2000, "run": 3000,
		"queue": 5000, "lost": 5000, "bytes": 5000, "Rest": 5000, "Holds": 5000, "Dials": 5000, "Runs": 5000, "Ends": 1000, "Over": 1000, "idle": 1000, "session": 1000, "down": 1000, "failed": 5000, "why lost": 1000} {
		if met[name] < n {
			t.Error(name, met[name])
		}
	}
}

// meets counts what an end is in.
func (k *end) meets(met map[string]int) {
	state, why := k.d.Policy()
	met[[]string{"Rest", "Holds", "Dials", "Runs", "Ends", "Over"}[state]]++
	met[phase.Name(k.d.Phase())]++
	if why == "lost" {
		why = "why lost"
	}
	met[why]++
	ip, ip6 := k.d.Ready()
	packets, bytes := k.d.Lost()
	for name, is := range map[string]bool{"ip": ip, "ipv6": ip6, "who": k.d.Who() != "", "run": k.d.Dialling(), "queue": k.d.Queue() > 0, "lost": packets > 0, "bytes": bytes > 0} {
		if is {
			met[name]++
		}
	}
	if state == policy.Runs && !ip && !ip6 {
		met["runs without a network"]++
	}
}
