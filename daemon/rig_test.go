package daemon

import (
	"encoding/hex"
	"slices"
	"strconv"
	"strings"
	"testing"

	"tether/api"
	"tether/hdlc"
	"tether/ip"
	"tether/opt"
	"tether/phase"
	"tether/policy"
)

// rig is a daemon with nothing at its other end but what a test says. What is put out, and frames that come, are texts: dial, hang, tun and digits, says and a quoted text; of frames a protocol's name, a code, an identifier and digits, or digits alone.
type rig struct {
	*testing.T
	d *Daemon
}

func names() map[string]int {
	return map[string]int{"lcp": api.PLcp, "pap": api.PPap, "chap": api.PChap, "eap": api.PEap, "ipcp": api.PIpcp, "ipv6cp": api.PIpv6cp, "ccp": api.PCcp, "ip": api.PIp, "ipv6": api.PIpv6, "comp": api.PComp}
}

// plain are options by which a link asks nothing but its address.
const plain = "name mill\nnomagic\nnopfc\nnoaccomp\n10.0.0.1:\n"

// of answers a rig of a daemon that has not started.
func of(t *testing.T, options string, secrets ...string) *rig {
	t.Helper()
	d, e, text, at := New(options, strings.Join(secrets, "\n"), 1)
	if e != api.OK || d == nil || text != 0 || at != 0 {
		t.Fatal(options, e, text, at)
	}
	return &rig{t, d}
}

// frame answers a frame as it goes over the line.
func (r *rig) frame(text string) []byte {
	r.Helper()
	words := append(strings.Fields(text), "", "", "")
	proto, named := names()[words[0]]
	if !named {
		n, err := strconv.ParseInt(words[0], 16, 64)
		if err != nil {
			r.Fatal(text, err)
		}
		proto = int(n)
	}
	number := func(s string) int {
		n, err := strconv.Atoi(s)
		if err != nil {
			r.Fatal(text, err)
		}
		return n
	}
	bytes := func(s string) []byte {
		b, err := hex.DecodeString(s)
		if err != nil {
			r.Fatal(text, err)
		}
		return b
	}
	f := api.Frame{Proto: proto}
	if proto < 0x8000 {
		f.Info = bytes(words[1])
	} else {
		f.Info, _ = opt.Pack(api.Packet{Code: number(words[1]), Id: number(words[2]), Data: bytes(words[3])})
	}
	b, e := hdlc.Encode(f, hdlc.Send{Accm: 1<<32 - 1})
	if e != api.OK {
		r.Fatal(text, e)
	}
	return b
}

// shows answers what was put out.
func (r *rig) shows(l []api.Out) []string {
	var out []string
	for _, o := range l {
		switch o.Kind {
		case api.ODial:
			out = append(out, "dial")
		case api.OHang:
			out = append(out, "hang")
		case api.OTun:
			out = append(out, strings.TrimSpace("tun "+hex.EncodeToString(o.B)))
		case api.OSerial:
			out = append(out, show(o.B))
		default:
			r.Fatal(o)
		}
	}
	return out
}

// show answers bytes of the line: the frame that they are, or what they say.
func show(b []byte) string {
	line := hdlc.New(api.MaxMru, 0, true, true)
	l := line.Feed(b)
	if len(l) != 1 || line.Counts() != (hdlc.Counts{Frames: 1}) {
		return "says " + strconv.Quote(string(b))
	}
	for name, proto := range names() {
		if proto == l[0].Proto {
			if p, e := opt.Unpack(l[0].Info); e == api.OK && proto >= 0x8000 {
				return strings.TrimSpace(name + " " + strconv.Itoa(p.Code) + " " + strconv.Itoa(p.Id) + " " + hex.EncodeToString(p.Data))
			}
			return strings.TrimSpace(name + " " + hex.EncodeToString(l[0].Info))
		}
	}
	return strconv.FormatInt(int64(l[0].Proto), 16) + " " + hex.EncodeToString(l[0].Info)
}

// puts holds what was put out against what is to be.
func (r *rig) puts(l []api.Out, e api.Errno, want []string) *rig {
	r.Helper()
	if got := r.shows(l); e != api.OK || !slices.Equal(got, want) {
		r.Fatalf("answered %q %v instead of %q", got, e, want)
	}
	return r
}

func (r *rig) start(want ...string) *rig {
	r.Helper()
	l, e := r.d.Start()
	return r.puts(l, e, want)
}

func (r *rig) step(e api.Event, want []string) *rig {
	r.Helper()
	l, err := r.d.Step(e)
	return r.puts(l, err, want)
}

func (r *rig) refuses(e api.Event, want api.Errno) *rig {
	r.Helper()
	if l, err := r.d.Step(e); len(l) != 0 || err != want {
		r.Fatal(e, "answered", r.shows(l), err, "instead of", want)
	}
	return r
}

func (r *rig) at(now int64, want ...string) *rig {
	r.Helper()
	return r.step(api.Event{Kind: api.VTick, N: now}, want)
}

func (r *rig) hears(text string, want ...string) *rig {
	r.Helper()
	return r.step(api.Event{Kind: api.VSerial, B: []byte(text)}, want)
}

func (r *rig) comes(frame string, want ...string) *rig {
	r.Helper()
	return r.step(api.Event{Kind: api.VSerial, B: r.frame(frame)}, want)
}

func (r *rig) tun(b []byte, want ...string) *rig {
	r.Helper()
	return r.step(api.Event{Kind: api.VTun, B: b}, want)
}

func (r *rig) carrier(n int64, want ...string) *rig {
	r.Helper()
	return r.step(api.Event{Kind: api.VModem, N: n}, want)
}

func (r *rig) up(want ...string) *rig {
	r.Helper()
	l, e := r.d.Up()
	return r.puts(l, e, want)
}

func (r *rig) down(want ...string) *rig {
	r.Helper()
	l, e := r.d.Down()
	return r.puts(l, e, want)
}

// The frames by which plain's link comes up.
const (
	ask       = "lcp 1 1"
	ipAsk     = "ipcp 1 1 03060a000001"
	ipTheirs  = "ipcp 1 1 03060a000002"
	ipGranted = "ipcp 2 1 03060a000002"
	ipTaken   = "ipcp 2 1 03060a000001"
)

// opens lets LCP and IP come up behind the first request, whose identifiers are told; more is what goes then.
func (r *rig) opens(lcp, ipcp int, more ...string) *rig {
	r.Helper()
	r.comes("lcp 2 "+strconv.Itoa(lcp)).comes(ask, "lcp 2 1", "ipcp 1 "+strconv.Itoa(ipcp)+" 03060a000001")
	return r.comes("ipcp 2 "+strconv.Itoa(ipcp)+" 03060a000001").comes(ipTheirs, append([]string{ipGranted}, more...)...)
}

// linked answers a rig of plain and more options, whose link runs.
func linked(t *testing.T, options string, secrets ...string) *rig {
	t.Helper()
	r := of(t, plain+options, secrets...)
	if r.d.Conf().Demand {
		r.start().up("dial")
	} else {
		r.start("dial")
	}
	return r.carrier(1, ask).opens(1, 1).is(policy.Runs, phase.Network)
}

// is asks where the daemon is.
func (r *rig) is(state, at int) *rig {
	r.Helper()
	if s, _ := r.d.Policy(); s != state || r.d.Phase() != at {
		r.Fatal("in", s, phase.Name(r.d.Phase()), "instead of", state, phase.Name(at))
	}
	return r
}

// why asks why the last link ended, and how many failed.
func (r *rig) why(why string, failures int) *rig {
	r.Helper()
	if _, s := r.d.Policy(); s != why || r.d.Failures() != failures {
		r.Fatal(s, r.d.Failures(), "instead of", why, failures)
	}
	return r
}

// keeps asks how many packets wait, and how many packets and bytes were lost.
func (r *rig) keeps(waits int, packets, bytes int64) *rig {
	r.Helper()
	if p, b := r.d.Lost(); r.d.Queue() != waits || p != packets || b != bytes {
		r.Fatal(r.d.Queue(), p, b, "instead of", waits, packets, bytes)
	}
	return r
}

// due asks when something is; -1: never.
func (r *rig) due(want int64) *rig {
	r.Helper()
	at, e := r.d.Next()
	if want < 0 && (at != 0 || e != api.ErrNone) || want >= 0 && (at != want || e != api.OK) {
		r.Fatal(at, e, "instead of", want)
	}
	return r
}

// dialling asks whether a script is played.
func (r *rig) dialling(want bool) *rig {
	r.Helper()
	if r.d.Dialling() != want {
		r.Fatal("dialling", !want)
	}
	return r
}

// of4 answers a packet of IP of a protocol, with a byte that tells it from others.
func of4(proto int, mark byte) []byte {
	b, _ := ip.Build(ip.Fields{Version: 4, Ttl: 64, Proto: proto, Src: 1, Dst: 2}, append(make([]byte, 20), mark))
	return b
}

// of6 answers one of IPv6.
func of6(mark byte) []byte {
	b, _ := ip.Build(ip.Fields{Version: 6, Ttl: 64, Proto: 17}, append(make([]byte, 8), mark))
	return b
}

const (
	tcp = 6
	udp = 17
)

// goes is how a packet of IP shows that goes over the line, and tun how one that is delivered does.
func goes(b []byte) string {
	return "ip " + hex.EncodeToString(b)
}

func tuns(b []byte) string {
	return "tun " + hex.EncodeToString(b)
}
