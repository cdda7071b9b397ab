package link

import (
	"bytes"
	"encoding/hex"
	"slices"
	"strconv"
	"strings"
	"testing"

	"tether/api"
	"tether/conf"
	"tether/hdlc"
	"tether/opt"
)

// rig is a link with nothing at its other end but what a test says. Frames are texts: of a protocol with packets its name, code, identifier and data; of others its name, or its number, and the information.
type rig struct {
	*testing.T
	l   *Link
	now int64
}

// names of protocols whose frames are packets, and of those whose are not.
func packetNames() map[string]int {
	return map[string]int{"lcp": api.PLcp, "pap": api.PPap, "chap": api.PChap, "eap": api.PEap, "ipcp": api.PIpcp, "ipv6cp": api.PIpv6cp, "ccp": api.PCcp}
}

func otherNames() map[string]int {
	return map[string]int{"ip": api.PIp, "ipv6": api.PIpv6, "comp": api.PComp}
}

// plain answers a configuration that asks nothing of a link.
func plain() api.Conf {
	c := conf.Default()
	c.Name = "mill"
	c.Magic, c.Pfc, c.Acfc = false, false, false
	c.LocalIp = 0x0a000001
	return c
}

// changed answers plain with changes.
func changed(changes ...func(c *api.Conf)) api.Conf {
	c := plain()
	for _, change := range changes {
		change(&c)
	}
	return c
}

// of answers a rig of a link that can be.
func of(t *testing.T, c api.Conf, l ...api.Secret) *rig {
	t.Helper()
	return given(t, c, 0, l...)
}

// given answers one that gives an address.
func given(t *testing.T, c api.Conf, give int64, l ...api.Secret) *rig {
	t.Helper()
	k, e := New(c, l, give, 1)
	if e != api.OK {
		t.Fatal(e)
	}
	return &rig{t, k, 0}
}

// raw answers a frame of a text, as it is.
func (r *rig) raw(text string) api.Frame {
	r.Helper()
	words := strings.Fields(text)
	bytesOf := func(s string) []byte {
		b, err := hex.DecodeString(s)
		if err != nil {
			r.Fatal(text, err)
		}
		return b
	}
	number := func(s string) int {
		n, err := strconv.Atoi(s)
		if err != nil {
			r.Fatal(text, err)
		}
		return n
	}
	words = append(words, "", "")
	if proto := packetNames()[words[0]]; proto != 0 && words[1] != ":" {
		b, e := opt.Pack(api.Packet{Code: number(words[1]), Id: number(words[2]), Data: bytesOf(words[3])})
		if e != api.OK {
			r.Fatal(text, e)
		}
		return api.Frame{Proto: proto, Info: b}
	}
	if proto := packetNames()[words[0]]; proto != 0 { // with information that need be no packet
		return api.Frame{Proto: proto, Info: bytesOf(words[2])}
	}
	proto := otherNames()[words[0]]
	if proto == 0 {
		n, err := strconv.ParseInt(words[0], 16, 64)
		if err != nil {
			r.Fatal(text, err)
		}
		proto = int(n)
	}
	return api.Frame{Proto: proto, Info: bytesOf(words[1])}
}

// line answers frames as they go over the line.
func (r *rig) line(texts ...string) []byte {
	r.Helper()
	var out []byte
	for _, text := range texts {
		b, e := hdlc.Encode(r.raw(text), hdlc.Send{})
		if e != api.OK {
			r.Fatal(text, e)
		}
		out = append(out, b...)
	}
	return out
}

// shows answers as texts what was put out.
func (r *rig) shows(l []api.Out) []string {
	r.Helper()
	var out []string
	for _, o := range l {
		switch o.Kind {
		case api.OTun:
			out = append(out, strings.TrimSpace("tun "+hex.EncodeToString(o.B)))
			continue
		case api.OSerial:
		default:
			r.Fatal(o)
		}
		line := hdlc.New(api.MaxMru, 0, true, true)
		frames := line.Feed(o.B)
		if len(frames) != 1 || line.Counts() != (hdlc.Counts{Frames: 1}) || o.B[0] != 0x7e || o.B[len(o.B)-1] != 0x7e || o.Text != "" {
			r.Fatal(o)
		}
		out = append(out, show(frames[0]))
	}
	return out
}

// show answers a frame as text.
func show(f api.Frame) string {
	for name, proto := range packetNames() {
		if p, e := opt.Unpack(f.Info); proto == f.Proto && e == api.OK {
			return strings.TrimSpace(name + " " + strconv.Itoa(p.Code) + " " + strconv.Itoa(p.Id) + " " + hex.EncodeToString(p.Data))
		}
	}
	name := strconv.FormatInt(int64(f.Proto), 16)
	for other, proto := range otherNames() {
		if proto == f.Proto {
			name = other
		}
	}
	return strings.TrimSpace(name + " " + hex.EncodeToString(f.Info))
}

// puts asks what a call has put out.
func (r *rig) puts(l []api.Out, e api.Errno, want ...string) {
	r.Helper()
	if got := r.shows(l); e != api.OK || !slices.Equal(got, want) {
		r.Fatalf("%q %v instead of %q", got, e, want)
	}
}

func (r *rig) open(want ...string) *rig {
	r.Helper()
	l, e := r.l.Open(r.now)
	r.puts(l, e, want...)
	return r
}

func (r *rig) close(want ...string) *rig {
	r.Helper()
	l, e := r.l.Close(r.now)
	r.puts(l, e, want...)
	return r
}

func (r *rig) lost(want ...string) *rig {
	r.Helper()
	l, e := r.l.Lost(r.now)
	r.puts(l, e, want...)
	return r
}

// at lets a time come.
func (r *rig) at(now int64, want ...string) *rig {
	r.Helper()
	r.now = now
	l, e := r.l.Tick(now)
	r.puts(l, e, want...)
	return r
}

// comes lets a frame come, which is not dropped.
func (r *rig) comes(text string, want ...string) *rig {
	r.Helper()
	before := r.l.Dropped()
	l, e := r.l.Feed(r.now, r.line(text))
	r.puts(l, e, want...)
	if r.l.Dropped() != before {
		r.Fatal(text, "was dropped")
	}
	return r
}

// drops lets a frame come that is dropped.
func (r *rig) drops(text string, want ...string) *rig {
	r.Helper()
	before := r.l.Dropped()
	l, e := r.l.Feed(r.now, r.line(text))
	r.puts(l, e, want...)
	if r.l.Dropped() != before+1 {
		r.Fatal(text, "was not dropped", r.l.Dropped(), before)
	}
	return r
}

// sends lets a packet go.
func (r *rig) sends(packet string, want ...string) *rig {
	r.Helper()
	b, err := hex.DecodeString(packet)
	if err != nil {
		r.Fatal(err)
	}
	l, e := r.l.Send(r.now, b)
	r.puts(l, e, want...)
	return r
}

// is asks for the phase, and for the states of LCP, IPCP, IPV6CP and CCP, as far as they are told.
func (r *rig) is(phase int, states ...int) *rig {
	r.Helper()
	if r.l.Phase() != phase {
		r.Fatal("phase", r.l.Phase(), "instead of", phase)
	}
	for i, s := range states {
		if proto := []int{api.PLcp, api.PIpcp, api.PIpv6cp, api.PCcp}[i]; r.l.State(proto) != s {
			r.Fatal(proto, r.l.State(proto), "instead of", s)
		}
	}
	return r
}

// due asks when something is due; -1: nothing is.
func (r *rig) due(want int64) *rig {
	r.Helper()
	at, e := r.l.Next()
	if want < 0 && (at != 0 || e != api.ErrNone) || want >= 0 && (at != want || e != api.OK) {
		r.Fatal(at, e, "instead of", want)
	}
	return r
}

// opened opens LCP, with a request of the other end's options; own is what this end's request says, then comes what it sends when LCP is opened.
func (r *rig) opened(own, theirs string, then ...string) *rig {
	r.Helper()
	id := strconv.Itoa(r.l.lcp.last + 1)
	r.open(strings.TrimSpace("lcp 1 " + id + " " + own))
	r.comes("lcp 2 " + id + " " + own)
	return r.comes("lcp 1 1 "+theirs, append([]string{strings.TrimSpace("lcp 2 1 " + theirs)}, then...)...)
}

// up answers a rig of plain in Network, with IP in Opened: 10.0.0.1 and 10.0.0.2.
func up(t *testing.T, changes ...func(c *api.Conf)) *rig {
	t.Helper()
	return of(t, changed(changes...)).opened("", "", ipRequest).ipUp()
}

// The requests of an end with 10.0.0.1, and of one with 10.0.0.2; and the address's option of the first one.
const (
	ipRequest = "ipcp 1 1 03060a000001"
	ipTheirs  = "ipcp 1 1 03060a000002"
	ipOption  = "03060a000001"
)

// ipUp lets IP come to Opened.
func (r *rig) ipUp() *rig {
	r.Helper()
	r.comes("ipcp 2 1 " + ipOption)
	r.comes(ipTheirs, "ipcp 2 1 03060a000002")
	return r.is(3, api.SOpened, api.SOpened)
}

// drawn answers the numbers that are drawn, one behind the other, of a seed.
func drawn(seed uint64, n int) []uint64 {
	var out []uint64
	for range n {
		seed = seed*6364136223846793005 + 1442695040888963407
		out = append(out, seed)
	}
	return out
}

// digits answers a number's last bytes, as digits.
func digits(n uint64, size int) string {
	s := strconv.FormatUint(n, 16)
	s = strings.Repeat("0", 16) + s
	return s[len(s)-2*size:]
}

// refused asks that a call is refused, and that this changes nothing of what the link tells.
func (r *rig) refused(want api.Errno, call func() ([]api.Out, api.Errno)) {
	r.Helper()
	before := r.told()
	if l, e := call(); len(l) != 0 || e != want {
		r.Fatal(r.shows(l), e, "instead of", want)
	}
	if after := r.told(); after != before {
		r.Fatal(after, before)
	}
}

// all that a link tells.
type all struct {
	phase, lcp, ipcp, ipv6cp, ccp int
	ip, ipv6                      bool
	addrs                         [2]int64
	ids                           [2]uint64
	who                           string
	next                          int64
	e                             api.Errno
	dropped                       int64
	line                          hdlc.Counts
}

func (r *rig) told() all {
	var a all
	l := r.l
	a.phase, a.lcp, a.ipcp, a.ipv6cp, a.ccp = l.Phase(), l.State(api.PLcp), l.State(api.PIpcp), l.State(api.PIpv6cp), l.State(api.PCcp)
	a.ip, a.ipv6 = l.Ready()
	a.addrs[0], a.addrs[1] = l.Addrs()
	a.ids[0], a.ids[1] = l.Ids()
	a.who = l.Who()
	a.next, a.e = l.Next()
	a.dropped, a.line = l.Dropped(), l.Line()
	return a
}

func TestTheRigReadsWhatItShows(t *testing.T) {
	r := of(t, plain())
	for _, text := range []string{"lcp 1 7 0506", "chap 2 255 00", "ip 4500", "2b", "8029 0102", "comp 00"} {
		if got := show(r.raw(text)); got != text {
			t.Error(got, text)
		}
	}
	if f := r.raw("lcp : 0102"); f.Proto != api.PLcp || !bytes.Equal(f.Info, []byte{1, 2}) {
		t.Error(f)
	}
}
