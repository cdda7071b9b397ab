package ctl

import (
	"bytes"
	"slices"
	"strconv"
	"strings"
	"testing"

	"tether/api"
	"tether/conf"
	"tether/hdlc"
	"tether/md5"
	"tether/opt"
	"tether/phase"
	"tether/secret"
)

// The examples of the whole that take two daemons

func TestAsInTheSecondExampleOfTheWhole(t *testing.T) {
	a, b := desk(t, "name mill\n10.0.0.1:\n"), desk(t, "name alice\n10.0.0.2:\n")
	joined(t, a, b, flow)
	for _, d := range []*Desk{a, b} {
		says(t, d, "status", "policy Runs phase Network ready ip")
	}
	says(t, a, "addrs", "10.0.0.1 10.0.0.2")
	says(t, b, "addrs", "10.0.0.2 10.0.0.1")
}

// spoken is what was said on a wire: the frames that came to each side, in order.
type spoken struct {
	w     *Wire
	lines [2]*hdlc.Line
	said  [2][]api.Frame // by each side
}

// listen answers one that hears all that comes on a wire.
func listen(w *Wire) *spoken {
	s := &spoken{w: w}
	for side := range s.lines {
		s.lines[side] = hdlc.New(api.MaxMru, 0, true, true)
	}
	return s
}

// flow lets all come, as a Flow does.
func (s *spoken) flow(t *testing.T) {
	t.Helper()
	for i := 0; i < 1000 && len(s.w.Waits(0))+len(s.w.Waits(1)) > 0; i++ {
		side := i % 2
		s.said[1-side] = append(s.said[1-side], s.lines[side].Feed(s.w.Waits(side))...)
		plays(t, s.w, Act{Kind: Carry, Side: side, N: 1 << 40})
	}
}

// of answers the control packets of a protocol that a side has said.
func (s *spoken) of(side, proto int) []api.Packet {
	var out []api.Packet
	for _, f := range s.said[side] {
		if p, e := opt.Unpack(f.Info); f.Proto == proto && e == api.OK {
			out = append(out, p)
		}
	}
	return out
}

// networks answers how many frames of network protocols a side has said.
func (s *spoken) networks(side int) int {
	n := 0
	for _, f := range s.said[side] {
		if f.Proto < 0xc000 {
			n++
		}
	}
	return n
}

func TestAsInTheThirdExampleOfTheWhole(t *testing.T) {
	for _, k := range []struct {
		word  string
		holds bool
	}{{"x", true}, {"y", false}} {
		a, b := desk(t, "name mill\nrequire-chap\n10.0.0.1:\n", "alice mill x"), desk(t, "name alice\n10.0.0.2:\n", "alice mill "+k.word)
		w := joined(t, a, b)
		s := listen(w)
		s.flow(t)
		asked, given := s.of(0, api.PChap), s.of(1, api.PChap)
		if len(asked) != 2 || len(given) != 1 || asked[0].Code != 1 || asked[0].Data[0] != 16 || string(asked[0].Data[17:]) != "mill" || given[0].Code != 2 {
			t.Fatal(asked, given)
		}
		sum, _ := md5.Response(asked[0].Id, k.word, asked[0].Data[1:17])
		if given[0].Id != asked[0].Id || string(given[0].Data) != "\x10"+string(sum[:])+"alice" {
			t.Error(given)
		}
		if k.holds {
			if asked[1].Code != 3 || s.networks(0) == 0 || s.networks(1) == 0 {
				t.Error(asked)
			}
			says(t, a, "who", "alice")
			says(t, b, "status", "policy Runs phase Network ready ip")
			continue
		}
		ends := slices.ContainsFunc(s.of(0, api.PLcp), func(p api.Packet) bool { return p.Code == api.CTermReq })
		if asked[1].Code != 4 || !ends || s.networks(0) != 0 || s.networks(1) != 0 {
			t.Error(asked, ends)
		}
		says(t, a, "who", "-")
		says(t, a, "failures", "1")
	}
}

func TestAsInTheFourthExampleOfTheWhole(t *testing.T) {
	_, b, w := pair(t, "deflate 12\n")
	zeros := func(mark byte) []byte { return append([]byte{0x45, mark}, make([]byte, 98)...) }
	plays(t, w, Act{Kind: Packet, B: zeros(1)})
	if l := frames(w.Waits(1)); len(l) != 1 || l[0].Proto != api.PComp {
		t.Fatal(l)
	}
	plays(t, w, flow, Act{Kind: Packet, B: zeros(2)}, Act{Kind: Drop, Side: 1, N: 1 << 40}, Act{Kind: Packet, B: zeros(3)})
	plays(t, w, Act{Kind: Carry, Side: 1, N: 1 << 40})
	if l := frames(w.Waits(0)); len(l) != 1 || l[0].Proto != api.PCcp || l[0].Info[0] != api.CResetReq {
		t.Fatal(l)
	}
	plays(t, w, Act{Kind: Carry, N: 1 << 40})
	if l := frames(w.Waits(1)); len(l) != 1 || l[0].Proto != api.PCcp || l[0].Info[0] != api.CResetAck {
		t.Fatal(l)
	}
	plays(t, w, flow, Act{Kind: Packet, B: zeros(4)}, Act{Kind: Packet, B: zeros(5)}, flow)
	if !sameLists(w.Told(1), [][]byte{zeros(1), zeros(4), zeros(5)}) {
		t.Error(w.Told(1))
	}
	says(t, b, "counters", "in 3 300 30 out 0 0 0 lost 0 0")
}

// P2

func TestOneScriptOneAnswer(t *testing.T) {
	for seed := range chance(60) {
		d, e := seed+1, seed+1
		v, w := d.world(t), e.world(t)
		for range 80 {
			got, err := v.Do(d.act(v))
			want, wrong := w.Do(e.act(w))
			if err != wrong || !sameOuts(got, want) {
				t.Fatal(got, err, want, wrong)
			}
		}
		same(t, v, w)
	}
	for _, options := range []string{"mru 63", "name \"\"", "10.0.0.1:10.0.0.256", "connect \"a \\\\q\"", "filter and"} {
		if d, e, _, _ := New(options, "", 1); d != nil || e == api.OK {
			t.Error(options, e)
		}
	}
}

// P4, P30.4

// ledger holds the frames that pass their sums against those that were sent.
type ledger struct {
	lines [2]*hdlc.Line // by which frames come to a side
	sent  [2][]api.Frame
	right bool // each that came was the next one of some of those that were sent
}

func newLedger() *ledger {
	l := &ledger{right: true}
	for side := range l.lines {
		l.lines[side] = hdlc.New(api.MaxMru, 0, true, true)
	}
	return l
}

// does does an act, and writes down what is sent and what comes. Only the acts that are done here may be.
func (l *ledger) does(t *testing.T, w *Wire, x Act) {
	t.Helper()
	if x.Kind == Flow {
		for i := 0; i < 1000 && len(w.Waits(0))+len(w.Waits(1)) > 0; i++ {
			l.does(t, w, Act{Kind: Carry, Side: i % 2, N: 1 << 40})
		}
		return
	}
	if x.Kind == Carry {
		b := w.Waits(x.Side)
		l.comes(x.Side, b[:min(int64(len(b)), x.N)])
	}
	var ahead [2]int
	for side := range ahead {
		ahead[side] = len(w.Waits(side))
	}
	if x.Kind == Carry {
		ahead[x.Side] -= int(min(int64(ahead[x.Side]), x.N))
	}
	if _, e := w.Do(x); e != api.OK {
		t.Fatal(x, e)
	}
	if x.Kind == Carry || x.Kind == Tick || x.Kind == Packet || x.Kind == Modem {
		for side := range ahead {
			l.sent[side] = append(l.sent[side], frames(w.Waits(side)[ahead[side]:])...)
		}
	}
}

// comes takes bytes that come to a side.
func (l *ledger) comes(side int, b []byte) {
	for _, f := range l.lines[side].Feed(b) {
		at := slices.IndexFunc(l.sent[side], func(o api.Frame) bool { return o.Proto == f.Proto && bytes.Equal(o.Info, f.Info) })
		if at < 0 {
			l.right = false
			return
		}
		l.sent[side] = l.sent[side][at+1:]
	}
}

// some tells whether a can be made of l by leaving some out.
func some(a, l [][]byte) bool {
	for _, b := range l {
		if len(a) > 0 && bytes.Equal(a[0], b) {
			a = a[1:]
		}
	}
	return len(a) == 0
}

// ofVersion answers those of l that are of a version.
func ofVersion(l [][]byte, version byte) [][]byte {
	var out [][]byte
	for _, b := range l {
		if b[0]>>4 == version {
			out = append(out, b)
		}
	}
	return out
}

// harm draws an act that does something to what waits.
func (d *chance) harm(w *Wire) Act {
	side := d.next(2)
	n := len(w.Waits(side))
	switch d.next(3) {
	case 0:
		return Act{Kind: Drop, Side: side, N: int64(d.next(80))}
	case 1:
		return Act{Kind: Turn, Side: side, N: int64(d.next(8*n + 1))}
	}
	b := make([]byte, d.next(6))
	for i := range b {
		b[i] = byte(d.next(one(d, 256, 128)))
	}
	return Act{Kind: Put, Side: side, B: b}
}

// whole is a session of two desks, on a wire that does harm.
func (d *chance) whole(t *testing.T, more string) (*Wire, *ledger) {
	t.Helper()
	secrets := "alice mill x\nmill alice x"
	a, b := desk(t, mill+more+one(d, "", "require-chap\n"), secrets), desk(t, alice+more+one(d, "", "require-eap\n"), secrets)
	w, e := Join(a, b)
	if e != api.OK {
		t.Fatal(e)
	}
	l := newLedger()
	l.does(t, w, Act{Kind: Modem, N: 1})
	l.does(t, w, Act{Kind: Modem, Side: 1, N: 1})
	packs := strings.Contains(more, "deflate") || strings.Contains(more, "bsdcomp")
	if packs || d.next(2) == 0 { // both have to pack ahead of the first packet, or none
		l.does(t, w, flow)
	}
	now := int64(0)
	serial := 0
	packet := func() []byte {
		b := append(d.packet(), strconv.Itoa(serial)...) // no two are alike
		serial++
		return b
	}
	for range 120 {
		switch n := d.next(20); {
		case n < 9:
			l.does(t, w, Act{Kind: Packet, Side: d.next(2), B: packet()})
		case n < 11:
			l.does(t, w, flow)
		case n < 14:
			l.does(t, w, Act{Kind: Carry, Side: d.next(2), N: int64(d.next(300))})
		case n < 15 && !packs:
			now += int64(d.next(2000))
			l.does(t, w, Act{Kind: Tick, N: now})
		default:
			l.does(t, w, d.harm(w))
		}
		for side := range w.ends {
			l.right = l.right && w.ends[side].desk.Phase() != phase.Dead
		}
	}
	return w, l
}

func TestWhatIsDeliveredWasSent(t *testing.T) {
	right, delivered, packed := 0, 0, int64(0)
	for seed := range chance(700) {
		d := seed + 1
		more := one(&d, "", "ipv6\n", "deflate 12\nipv6\n", "deflate 9\n", "bsdcomp 9\nipv6\n", "bsdcomp 12\n") + one(&d, "", "asyncmap 0\n", "echo-interval 2\necho-failure 200\n")
		w, l := d.whole(t, more)
		if !l.right {
			continue
		}
		for side := range 2 {
			told, taken := w.Told(side), w.Taken(1-side)
			for _, version := range []byte{4, 6} {
				if !some(ofVersion(told, version), ofVersion(taken, version)) {
					t.Fatal(more, side, told, taken)
				}
			}
			delivered += len(told)
			c := w.ends[side].desk.daemon.Counts(false)
			packed += c.Bytes - c.Wire
		}
		right++
	}
	if right < 600 || delivered < 10000 || packed < 100000 {
		t.Error(right, delivered, packed)
	}
}

func TestWithoutHarmAllIsDelivered(t *testing.T) {
	for seed := range chance(100) {
		d := seed + 1
		_, _, w := pair(t, one(&d, "ipv6\n", "ipv6\ndeflate 12\n", "ipv6\nbsdcomp 10\n")+one(&d, "", "asyncmap 0\n"))
		for range 100 {
			plays(t, w, one(&d, flow, Act{Kind: Packet, B: d.packet()}, Act{Kind: Packet, Side: 1, B: d.packet()}, Act{Kind: Carry, N: int64(d.next(90))}))
		}
		plays(t, w, flow)
		if !sameLists(w.Told(0), w.Taken(1)) || !sameLists(w.Told(1), w.Taken(0)) {
			t.Fatal(w.Told(0), w.Taken(1))
		}
	}
}

// P5

func TestNothingPassesAheadOfAProof(t *testing.T) {
	for seed := range chance(200) {
		d := seed + 1
		method := one(&d, "pap", "chap", "eap")
		word := one(&d, "x", "y")
		a := desk(t, mill+"demand\nrequire-"+method+"\n"+one(&d, "", "ipv6\n", "deflate 12\n"), "alice mill x")
		b := desk(t, alice+one(&d, "", "ipv6\n", "deflate 12\n"), "alice mill "+word)
		w := joined(t, a, b, Act{Kind: Packet, B: four(tcp, 1)}, Act{Kind: Packet, Side: 1, B: four(tcp, 2)})
		s := listen(w)
		for range 60 {
			side := d.next(2)
			n := min(1+d.next(60), len(w.Waits(side)))
			s.said[1-side] = append(s.said[1-side], s.lines[side].Feed(w.Waits(side)[:n])...)
			plays(t, w, Act{Kind: Carry, Side: side, N: int64(n)})
			if who, _ := a.Line("who"); who == "-" && (len(w.Told(0))+len(w.Told(1)) > 0 || s.networks(0) > 0) {
				t.Fatal(method, word, s.said)
			}
		}
		s.flow(t)
		if who, _ := a.Line("who"); (who == "alice") != (word == "x") || (len(w.Told(1)) == 1) != (word == "x") || (len(w.Told(0)) == 1) != (word == "x") {
			t.Fatal(method, word, who, w.Told(0), w.Told(1))
		}
	}
}

// P6, P30.5

func TestItComesUp(t *testing.T) {
	for seed := range chance(500) {
		d := seed + 1
		methods := []string{"pap", "chap", "eap"}
		var options [2]string
		requires := [2]string{one(&d, "", "pap", "chap", "eap"), one(&d, "", "pap", "chap", "eap")}
		for side, name := range []string{"mill", "alice"} {
			accepts := append([]string{requires[1-side]}, methods[:d.next(4)]...)
			slices.Sort(accepts)
			accepts = slices.DeleteFunc(slices.Compact(accepts), func(s string) bool { return s == "" })
			options[side] = "nomagic\nname " + name + "\nremotename " + []string{"alice", "mill"}[side] + "\n10.0.0." + strconv.Itoa(side+1) + ":\nnoaccept\n"
			if len(accepts) > 0 {
				options[side] += "accept " + strings.Join(accepts, " ") + "\n"
			}
			if requires[side] != "" {
				options[side] += "require-" + requires[side] + "\n"
			}
			options[side] += one(&d, "", "mru 64\n", "mru 16384\n") + one(&d, "", "asyncmap 0\n", "asyncmap a0000\n") + one(&d, "", "nopfc\n") + one(&d, "", "noaccomp\n") +
				one(&d, "", "ipv6\n", "ipv6id 0:0:0:"+strconv.Itoa(side+5)+"\n") + one(&d, "", "deflate 8\n", "deflate 15\n", "bsdcomp 9\ndeflate 12\n", "bsdcomp 15\n") +
				one(&d, "", "usepeerdns\n") + one(&d, "", "ms-dns 8.8.8.8\nms-dns 9.9.9.9\n") + one(&d, "", "10.0.0."+strconv.Itoa(side+1)+":10.0.0."+strconv.Itoa(2-side)+"\n")
		}
		secrets := "alice mill x\nmill alice x\n"
		a, e, _, _ := New(options[0], secrets, uint64(d.next(1<<31)))
		b, f, _, _ := New(options[1], secrets, uint64(d.next(1<<31)))
		if e != api.OK || f != api.OK {
			t.Fatal(options, e, f)
		}
		joined(t, a, b, flow)
		for side, k := range []*Desk{a, b} {
			if ip, _ := k.Ready(); !ip || k.Phase() != 3 {
				status, _ := k.Line("status")
				t.Fatal(status, options)
			}
			says(t, k, "addrs", []string{"10.0.0.1 10.0.0.2", "10.0.0.2 10.0.0.1"}[side])
			if requires[side] != "" {
				says(t, k, "who", []string{"alice", "mill"}[side])
			}
		}
	}
}

// P7

func TestInTime(t *testing.T) {
	a, _, w := pair(t, "idle 10\nmaxconnect 60\nholdoff 20\nfilter tcp\n")
	plays(t, w, Act{Kind: Tick, N: 9000}, Act{Kind: Packet, Side: 1, B: four(tcp, 1)}, flow, Act{Kind: Tick, N: 18000}, Act{Kind: Packet, B: four(udp, 1)}, flow, Act{Kind: Tick, N: 18999})
	says(t, a, "status", "policy Runs phase Network ready ip")
	plays(t, w, Act{Kind: Tick, N: 19000}, flow)
	says(t, a, "status", "policy Holds phase Dead ready none")
	says(t, a, "why", "idle")
	says(t, a, "next", "39000")
	a, _, w = pair(t, "maxconnect 60\npersist\nholdoff 20\n")
	for now := int64(1000); now < 60000; now += 1000 {
		plays(t, w, Act{Kind: Tick, N: now}, Act{Kind: Packet, B: four(tcp, 1)}, flow)
		says(t, a, "status", "policy Runs phase Network ready ip")
	}
	plays(t, w, Act{Kind: Tick, N: 60000}, flow)
	says(t, a, "why", "session")
	plays(t, w, Act{Kind: Tick, N: 79999})
	says(t, a, "status", "policy Holds phase Dead ready none")
	l, e := w.Do(Act{Kind: Tick, N: 80000})
	if dials := slices.DeleteFunc(l, func(o api.Out) bool { return o.Kind != api.ODial }); e != api.OK || len(dials) != 2 {
		t.Error(l, e)
	}
}

// P9

func TestAsItWasWritten(t *testing.T) {
	for seed := range chance(200) {
		d := seed + 1
		options := d.options("mill", "alice", "10.0.0.1")
		k := desk(t, options)
		text, _ := k.Line("conf")
		says(t, desk(t, text), "conf", text)
		if c, e, _ := conf.Parse(text); e != api.OK || !conf.Same(c, k.daemon.Conf()) {
			t.Fatal(options, text)
		}
		for word, texts := range map[string][]string{
			"filter": {"tcp&&!(udp||ip6)", "src net 10.0.0.0/8 or greater 5", "not not ( icmp )"},
			"chat":   {"ABORT 'a b' '' \\d101 OK-\\s-OK TIMEOUT 5 x \\c", "REPORT a SAY \"\\n\" ''", "a-b-c d\\-e"},
		} {
			for _, text := range texts {
				if once, _ := k.Line(word + " " + text); !strings.HasPrefix(once, "error") {
					says(t, k, word+" "+once, once)
				} else if !strings.Contains(text, "\\d") { // which is no escape
					t.Error(word, text, once)
				}
			}
		}
	}
	l, e, _ := secret.Parse("alice mill \"a b\" 10.0.0.1 # hers")
	text, e2, _ := secret.Print(l)
	if e != api.OK || e2 != api.OK {
		t.Fatal(e, e2)
	}
	says(t, desk(t, ""), "secret "+text, "1")
}

// P10

func TestAProofIsTheDigest(t *testing.T) {
	taken := 0
	for seed := range chance(150) {
		d := seed + 1
		a := desk(t, mill+"require-chap\nmax-configure 255\n", "alice mill x")
		w := joined(t, a, desk(t, alice))
		s := listen(w)
		for range 20 { // up to the Challenge, which alice gets no chance to answer
			s.flowUntil(t, api.PChap)
		}
		asked := s.of(0, api.PChap)
		if len(asked) == 0 {
			t.Fatal("no Challenge")
		}
		q := asked[len(asked)-1]
		sum, _ := md5.Response(q.Id, "x", q.Data[1:17])
		value, id, name := sum[:], q.Id, "alice"
		right := false
		switch d.next(6) {
		case 0:
			value[d.next(16)] ^= 1 << d.next(8)
		case 1:
			value = value[:15]
		case 2:
			id = (id + 1) % 256
		case 3:
			name = one(&d, "alic", "mill", "")
		case 4:
			other, _ := md5.Response(q.Id, "X", q.Data[1:17])
			value = other[:]
		default:
			right = true
		}
		body, _ := opt.Pack(api.Packet{Code: 2, Id: id, Data: append(append([]byte{byte(len(value))}, value...), name...)})
		b, _ := hdlc.Encode(api.Frame{Proto: api.PChap, Info: body}, hdlc.Send{Accm: 1<<32 - 1})
		plays(t, w, Act{Kind: Put, B: b}, Act{Kind: Carry, N: int64(len(b))})
		if who, _ := a.Line("who"); (who == "alice") != right {
			t.Fatal(right, who)
		}
		if right {
			taken++
		}
	}
	if taken < 10 {
		t.Error(taken)
	}
}

// flowUntil lets all come, until a frame of a protocol waits for alice: that one is heard, and gone.
func (s *spoken) flowUntil(t *testing.T, proto int) {
	t.Helper()
	for side := range 2 {
		b := s.w.Waits(side)
		l := frames(b)
		if side == 1 && slices.ContainsFunc(l, func(f api.Frame) bool { return f.Proto == proto }) {
			s.said[0] = append(s.said[0], l...)
			plays(t, s.w, Act{Kind: Drop, Side: 1, N: 1 << 40})
			continue
		}
		plays(t, s.w, Act{Kind: Carry, Side: side, N: int64(len(b))})
	}
}
