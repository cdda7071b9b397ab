package link

import (
	"bytes"
	"encoding/hex"
	"math"
	"strings"
	"testing"

	"tether/api"
	"tether/conf"
	"tether/hdlc"
	"tether/meter"
	"tether/phase"
)

// Examples

func TestAsInTheExample(t *testing.T) {
	l, e := New(conf.Default(), nil, 0, 1)
	if e != api.OK {
		t.Fatal(e)
	}
	r := &rig{t, l, 0}
	out, e := l.Open(0)
	magic := digits(drawn(1, 1)[0]>>32, 4)
	own := "0506" + magic + "07020802"
	r.puts(out, e, "lcp 1 1 "+own)
	if !strings.HasPrefix(hex.EncodeToString(out[0].B), "7eff7d23c0217d217d217d207d2e7d257d26") {
		t.Error(out)
	}
	r.comes("lcp 2 1 " + own)
	out, e = l.Feed(0, r.line("lcp 1 1"))
	r.puts(out, e, "lcp 2 1", "ipcp 1 1 030600000000")
	r.is(phase.Network, api.SOpened, api.SReqSent)
}

// P27.1

// calls are those that have a time, by names; what is fed and sent can be.
func calls(r *rig) map[string]func(now int64) ([]api.Out, api.Errno) {
	return map[string]func(now int64) ([]api.Out, api.Errno){
		"open":  r.l.Open,
		"close": r.l.Close,
		"lost":  r.l.Lost,
		"tick":  r.l.Tick,
		"feed":  func(now int64) ([]api.Out, api.Errno) { return r.l.Feed(now, []byte{0x7e}) },
		"send":  func(now int64) ([]api.Out, api.Errno) { return r.l.Send(now, []byte{0x45}) },
	}
}

func TestNewRefusesWhatCanNotBe(t *testing.T) {
	good := []api.Secret{{Client: "a", Server: "b", Word: "x"}}
	bad := []api.Secret{{Client: "a", Server: "b", Word: "x"}, {Server: "b"}}
	wrong := changed(func(c *api.Conf) { c.Mru = 10 })
	for i, k := range []struct {
		c    api.Conf
		l    []api.Secret
		give int64
		want api.Errno
	}{
		{plain(), good, 0, api.OK},
		{plain(), nil, math.MaxUint32, api.OK},
		{plain(), good, -1, api.ErrAddr},
		{plain(), good, math.MaxUint32 + 1, api.ErrAddr},
		{plain(), good, math.MinInt64, api.ErrAddr},
		{plain(), bad, -1, api.ErrName},
		{plain(), []api.Secret{{Client: "a", Server: "b", Word: "\n"}}, 0, api.ErrValue},
		{plain(), []api.Secret{{Client: "a", Server: "b", Addrs: []int64{5, 5}}}, 0, api.ErrTwice},
		{plain(), make([]api.Secret, 65), 0, api.ErrFull},
		{wrong, bad, -1, api.ErrValue},
		{wrong, good, 0, api.ErrValue},
		{api.Conf{}, nil, 0, api.ErrValue},
		{changed(func(c *api.Conf) { c.Holdoff = -1 }), nil, 0, api.ErrValue},
	} {
		l, e := New(k.c, k.l, k.give, 1)
		if e != k.want || (l == nil) == (e == api.OK) {
			t.Error(i, l, e)
		}
	}
}

func TestNewIsDead(t *testing.T) {
	r := of(t, changed(func(c *api.Conf) { c.Ipv6, c.Deflate = true, 12 }))
	r.is(phase.Dead, 0, 0, 0, 0).due(-1)
	if got := r.told(); got != (all{e: api.ErrNone}) {
		t.Error(got)
	}
	for _, out := range []bool{false, true} {
		if r.l.Counts(out) != (meter.Counts{}) {
			t.Error(r.l.Counts(out))
		}
	}
}

func TestNewKeepsNothingThatIsHandedIn(t *testing.T) {
	c := changed(func(c *api.Conf) { c.Require, c.Accept = api.MPap, []int{api.MPap, api.MChap} })
	l := []api.Secret{{Client: "alice", Server: "mill", Word: "x", Addrs: []int64{0x0a000002}}}
	r := of(t, c, l...)
	c.Accept[0], c.Accept[1] = api.MEap, api.MEap
	l[0].Word = "y"
	l[0].Addrs[0] = 1
	r.opened("0304c023", "")
	r.comes("pap 1 5 05"+hex.EncodeToString([]byte("alice"))+"0178", "pap 2 5 0777656c636f6d65", ipRequest)
	r.comes("lcp 1 2 0304c023", "lcp 1 2 0304c023", "lcp 2 2 0304c023") // the methods that it takes are as they were
	r.is(phase.Establish)
}

func TestOfNil(t *testing.T) {
	for _, l := range []*Link{nil, {}} { // one that New has not made is as nil
		r := &rig{t, l, 0}
		for name, call := range calls(r) {
			for _, now := range []int64{-1, 0, math.MaxInt64} {
				if out, e := call(now); len(out) != 0 || e != api.ErrNil {
					t.Error(name, out, e)
				}
			}
		}
		if e := l.Random(5); e != api.ErrNil {
			t.Error(e)
		}
		if got := r.told(); got != (all{e: api.ErrNil}) {
			t.Error(got)
		}
		if l.Counts(true) != (meter.Counts{}) || l.Counts(false) != (meter.Counts{}) {
			t.Error("counts")
		}
	}
}

func TestDraws(t *testing.T) {
	for _, seed := range []uint64{0, 1, 12345, math.MaxUint64} {
		l, _ := New(conf.Default(), nil, 0, seed)
		r := &rig{t, l, 0}
		r.open("lcp 1 1 0506" + digits(drawn(seed, 1)[0]>>32, 4) + "07020802")
	}
}

func TestRandomGoesIntoTheDraws(t *testing.T) {
	for _, n := range []uint64{0, 1, 0xfedcba9876543210} {
		l, _ := New(conf.Default(), nil, 0, 77)
		r := &rig{t, l, 0}
		if e := l.Random(n); e != api.OK {
			t.Error(e)
		}
		l.Random(5)
		r.open("lcp 1 1 0506" + digits(drawn(77^n^5, 1)[0]>>32, 4) + "07020802")
	}
}

func TestAMagicNumberIsNot0(t *testing.T) {
	var inverse uint64 = 1
	for range 6 { // so often it is right in twice as many bits
		inverse *= 2 - 6364136223846793005*inverse
	}
	for want, first := range map[string]uint64{"00000001": 0xffffffff, "00000002": 0x2ffffffff} {
		seed := (first - 1442695040888963407) * inverse
		if drawn(seed, 1)[0] != first {
			t.Fatal(seed)
		}
		l, _ := New(conf.Default(), nil, 0, seed)
		r := &rig{t, l, 0}
		r.open("lcp 1 1 0506" + want + "07020802")
	}
}

// P27.2

func TestTimesThatCanNotBe(t *testing.T) {
	for _, dead := range []bool{true, false} {
		r := of(t, plain())
		r.at(100)
		if !dead {
			r.open("lcp 1 1")
		}
		for name := range calls(r) {
			for _, now := range []int64{math.MinInt64, -1, 0, 99, api.MaxTime + 1, math.MaxInt64} {
				r.refused(api.ErrArg, func() ([]api.Out, api.Errno) { return calls(r)[name](now) })
			}
		}
		r.at(100)
	}
}

func TestErrorsOfACallAndTheirOrder(t *testing.T) {
	r := of(t, plain())
	feed := func(now int64, b ...byte) func() ([]api.Out, api.Errno) {
		return func() ([]api.Out, api.Errno) { return r.l.Feed(now, b) }
	}
	send := func(now int64, b ...byte) func() ([]api.Out, api.Errno) {
		return func() ([]api.Out, api.Errno) { return r.l.Send(now, b) }
	}
	open := func(now int64) func() ([]api.Out, api.Errno) {
		return func() ([]api.Out, api.Errno) { return r.l.Open(now) }
	}
	r.refused(api.ErrState, feed(5, 0x7e))
	r.refused(api.ErrArg, feed(-1, 0x7e))
	r.refused(api.ErrIp, send(5))
	r.refused(api.ErrArg, send(-1))
	for _, first := range []byte{0, 0x3f, 0x50, 0x7f, 0xff} {
		r.refused(api.ErrIp, send(5, first, 4, 6))
	}
	r.refused(api.ErrState, send(5, 0x45))
	r.refused(api.ErrState, send(5, 0x60))
	r.refused(api.ErrState, send(5, append([]byte{0x45}, make([]byte, 9999)...)...))
	r.at(0) // a refused call has let no time come
	r.opened("", "", ipRequest).ipUp()
	r.refused(api.ErrState, open(7))
	r.refused(api.ErrArg, open(-7))
	r.refused(api.ErrState, send(7, 0x60)) // IPv6 is not here
	r.refused(api.ErrSize, send(7, append([]byte{0x45}, make([]byte, 1500)...)...))
	r.refused(api.ErrIp, send(7, 0x70))
	r.sends("4501", "ip 4501")
}

func TestARefusedCallDoesNotDoWhatIsDue(t *testing.T) {
	r := of(t, plain()).open("lcp 1 1").due(3000)
	r.refused(api.ErrState, func() ([]api.Out, api.Errno) { return r.l.Open(5000) })
	r.refused(api.ErrState, func() ([]api.Out, api.Errno) { return r.l.Send(5000, []byte{0x45}) })
	r.refused(api.ErrIp, func() ([]api.Out, api.Errno) { return r.l.Send(5000, nil) })
	r.at(2999).at(3000, "lcp 1 2")
}

func TestWhatIsDueIsDoneAheadOfTheCall(t *testing.T) {
	r := of(t, plain()).open("lcp 1 1")
	r.now = 3000
	r.comes("lcp 1 9", "lcp 1 2", "lcp 2 9")
	r.now = 6000
	r.close("lcp 1 3", "lcp 5 4")
	r.now = 9000
	r.lost("lcp 5 5").is(phase.Dead)
}

func TestAPacketGoesNotIfWhatWasDueHasClosedItsNetwork(t *testing.T) {
	r := up(t, func(c *api.Conf) { c.EchoEvery, c.EchoFail = 10, 1 })
	r.at(10, "lcp 9 2 00000000")
	r.now = 20
	r.sends("4501", "lcp 5 3").is(phase.Establish)
	if r.l.Counts(true).Packets != 0 {
		t.Error(r.l.Counts(true))
	}
}

func TestOpenFindsAnotherAutomatonWhereItMust(t *testing.T) {
	r := of(t, changed(func(c *api.Conf) { c.MaxConfigure = 1 }))
	r.open("lcp 1 1").is(phase.Establish, api.SReqSent)
	r.at(3000).is(phase.Dead, api.SStopped).due(-1)
	r.open("lcp 1 2").is(phase.Establish, api.SReqSent)
	r.close("lcp 5 3").is(phase.Terminate, api.SClosing)
	r.comes("lcp 6 3").is(phase.Dead, api.SClosed)
	r.open("lcp 1 4").lost().is(phase.Dead, api.SStarting)
	r.open("lcp 1 5").close("lcp 5 6").lost().is(phase.Dead, api.SInitial)
	r.open("lcp 1 7").is(phase.Establish, api.SReqSent)
}

func TestOpenMakesLcpReady(t *testing.T) {
	r := of(t, changed(func(c *api.Conf) { c.Mru, c.Magic, c.MaxFailure = 1400, true, 1 }))
	magic := func(n int) string { return digits(drawn(1, n)[n-1]>>32, 4) }
	r.open("lcp 1 1 01040578" + "0506" + magic(1))
	r.comes("lcp 4 1 01040578", "lcp 1 2 0506"+magic(1)) // an Mru is asked for no longer
	r.comes("lcp 1 9 01040005", "lcp 3 9 01040040")      // one nak: the next one would be a Reject
	r.lost()
	r.open("lcp 1 3 01040578" + "0506" + magic(3)) // with a draw for the Judge between
	r.comes("lcp 1 9 01040005", "lcp 3 9 01040040")
	r.drops("lcp 2 2 0506" + magic(1))
}

func TestARequestOfALineThatIsLostIsForgotten(t *testing.T) {
	r := of(t, plain()).open("lcp 1 1").lost()
	r.open("lcp 1 2").drops("lcp 2 1").is(phase.Establish, api.SReqSent).comes("lcp 2 2").is(phase.Establish, api.SAckRcvd)
}

func TestOpenAndLostBeginAnewBetweenFrames(t *testing.T) {
	for _, begin := range []func(r *rig){
		func(r *rig) { r.lost() },
		func(r *rig) { r.close("lcp 5 2").at(3000, "lcp 5 3").at(6000) }, // Dead without having lost the line
	} {
		r := of(t, plain()).open("lcp 1 1")
		if _, e := r.l.Feed(0, []byte{0x7e, 1, 2, 3, 4, 5, 6}); e != api.OK {
			t.Fatal(e)
		}
		begin(r)
		r.is(phase.Dead)
		out, e := r.l.Open(r.now)
		if len(out) != 1 || e != api.OK {
			t.Fatal(out, e)
		}
		r.comes("lcp 1 5", "lcp 2 5")
		if got := r.l.Line(); got != (hdlc.Counts{Frames: 1}) {
			t.Error(got)
		}
	}
}

func TestCloseAndLostOfADeadLink(t *testing.T) {
	r := of(t, plain()).close().lost().is(phase.Dead, api.SInitial)
	r.open("lcp 1 1").lost().close().lost().is(phase.Dead, api.SStarting)
}

func TestClose(t *testing.T) {
	for _, k := range []struct {
		come  func(r *rig)
		puts  []string
		state int
	}{
		{func(r *rig) {}, []string{"lcp 5 2"}, api.SClosing},
		{func(r *rig) { r.comes("lcp 1 1", "lcp 2 1") }, []string{"lcp 5 2"}, api.SClosing},
		{func(r *rig) { r.comes("lcp 2 1").comes("lcp 1 1", "lcp 2 1", ipRequest) }, []string{"lcp 5 2"}, api.SClosing},
		{func(r *rig) { r.close("lcp 5 2") }, nil, api.SClosing},
		{func(r *rig) {
			r.comes("lcp 2 1").comes("lcp 1 1", "lcp 2 1", ipRequest).comes("lcp 5 7", "lcp 6 7").is(phase.Establish, api.SStopping)
		}, nil, api.SClosing},
	} {
		r := of(t, plain()).open("lcp 1 1")
		k.come(r)
		r.close(k.puts...).is(phase.Terminate, k.state)
		r.comes("lcp 6 2").is(phase.Dead, api.SClosed)
	}
}

func TestLost(t *testing.T) {
	r := of(t, changed(func(c *api.Conf) { c.Ipv6, c.LocalId, c.Deflate, c.EchoEvery = true, 5, 12, 100 }))
	r.opened("", "", ipRequest, "ipv6cp 1 1 010a0000000000000005", "ccp 1 1 1a044800").ipUp()
	r.lost().is(phase.Dead, api.SStarting, api.SStarting, api.SStarting, api.SStarting).due(-1)
	if r.l.Dropped() != 0 {
		t.Error(r.l.Dropped())
	}
}

func TestATickIsNothingMore(t *testing.T) {
	r := of(t, plain()).at(0).at(5).at(api.MaxTime)
	r.open("lcp 1 1").at(api.MaxTime).due(api.MaxTime + 3000)
}

func TestFramesThatAWholeFeedEnds(t *testing.T) {
	r := of(t, plain()).open("lcp 1 1")
	out, e := r.l.Feed(0, r.line("lcp 2 1", "lcp 1 1", "ipcp 2 1 "+ipOption, ipTheirs, "ip 4501"))
	r.puts(out, e, "lcp 2 1", ipRequest, "ipcp 2 1 03060a000002", "tun 4501")
}

func TestBytesInPiecesAreTheSame(t *testing.T) {
	r := of(t, plain()).open("lcp 1 1")
	var got []string
	for _, b := range r.line("lcp 2 1", "lcp 1 1", "ipcp 2 1 "+ipOption, ipTheirs, "ip 4501") {
		out, e := r.l.Feed(0, []byte{b})
		if e != api.OK {
			t.Fatal(e)
		}
		got = append(got, r.shows(out)...)
	}
	if want := "lcp 2 1|" + ipRequest + "|ipcp 2 1 03060a000002|tun 4501"; strings.Join(got, "|") != want {
		t.Error(got)
	}
}

func TestFramesBehindTheOneThatEndsTheLink(t *testing.T) {
	r := of(t, plain()).open("lcp 1 1").close("lcp 5 2")
	out, e := r.l.Feed(0, r.line("lcp 6 2", "lcp 1 1", "ip 45", "8029 01"))
	r.puts(out, e)
	r.is(phase.Dead, api.SClosed)
	if r.l.Dropped() != 3 || r.l.Line().Frames != 4 {
		t.Error(r.l.Dropped(), r.l.Line())
	}
	r.refused(api.ErrState, func() ([]api.Out, api.Errno) { return r.l.Feed(0, nil) })
}

func TestFramesOfALinkThatDiesOfWhatIsDue(t *testing.T) {
	r := of(t, changed(func(c *api.Conf) { c.MaxConfigure = 1 })).open("lcp 1 1")
	r.now = 3000
	r.drops("lcp 1 1").is(phase.Dead)
}

// P27.3

func TestNext(t *testing.T) {
	r := of(t, changed(func(c *api.Conf) { c.EchoEvery, c.Restart = 5000, 700 })).at(50)
	r.open("lcp 1 1").due(750)
	r.now = 60
	r.comes("lcp 2 1").due(750) // no request has gone out anew
	r.comes("lcp 1 1", "lcp 2 1", ipRequest).due(760)
	r.now = 100
	r.comes("ipcp 2 1 " + ipOption).due(760)
	r.comes(ipTheirs, "ipcp 2 1 03060a000002").due(5060) // the echo's
	r.at(5060, "lcp 9 2 00000000").due(10060)
	r.lost().due(-1)
}

func TestNextMayLieAboveTheLastTime(t *testing.T) {
	r := of(t, plain()).at(api.MaxTime).open("lcp 1 1").due(api.MaxTime + 3000)
	r.at(api.MaxTime).due(api.MaxTime + 3000)
}

func TestStatesOfProtocolsThatAreNone(t *testing.T) {
	r := up(t)
	for _, n := range []int{api.PIpv6cp, api.PCcp, api.PIp, api.PPap, api.PChap, api.PEap, api.PComp, 0, -1, math.MaxInt, math.MinInt} {
		if s := r.l.State(n); s != api.SInitial {
			t.Error(n, s)
		}
	}
}

func TestReadyAndAddrs(t *testing.T) {
	r := of(t, plain()).opened("", "", ipRequest)
	told := func(ready bool, mine, theirs int64) {
		t.Helper()
		a, b := r.l.Addrs()
		if ip, ip6 := r.l.Ready(); ip != ready || ip6 || a != mine || b != theirs {
			t.Error(ip, ip6, a, b)
		}
	}
	told(false, 0, 0)
	r.comes("ipcp 2 1 " + ipOption)
	told(false, 0, 0)
	r.comes(ipTheirs, "ipcp 2 1 03060a000002")
	told(true, 0x0a000001, 0x0a000002)
	r.comes("ipcp 5 1", "ipcp 6 1")
	told(false, 0, 0)
	r = of(t, plain()).opened("", "", ipRequest).comes("ipcp 2 1 "+ipOption).comes("ipcp 1 1", "ipcp 2 1")
	told(true, 0x0a000001, 0) // the other end has told none
}

func TestCountsOfPackets(t *testing.T) {
	r := up(t)
	r.sends("4501", "ip 4501").sends("45020304", "ip 45020304")
	r.comes("ip 45", "tun 45").comes("ip", "tun").comes("ip 990102", "tun 990102")
	if got := r.l.Counts(true); got != (meter.Counts{Packets: 2, Bytes: 6, Wire: 6}) {
		t.Error(got)
	}
	if got := r.l.Counts(false); got != (meter.Counts{Packets: 3, Bytes: 4, Wire: 4}) {
		t.Error(got)
	}
	r.lost()
	if r.l.Counts(true).Packets != 2 || r.l.Counts(false).Packets != 3 {
		t.Error("counts were forgotten")
	}
}

func TestTheLinesCounts(t *testing.T) {
	r := of(t, plain()).open("lcp 1 1")
	b := r.line("lcp 1 1")
	b[5] ^= 1
	r.l.Feed(0, b)
	r.l.Feed(0, []byte{0x41, 0x7d, 0x7e, 0x41, 0x7e})
	r.comes("lcp 2 1")
	if got := r.l.Line(); got != (hdlc.Counts{Frames: 1, Runts: 1, Sums: 1, Aborts: 1}) || r.l.Dropped() != 0 {
		t.Error(got, r.l.Dropped())
	}
}

func TestWhatIsAnsweredIsNewMemory(t *testing.T) {
	r := up(t)
	line := r.line("ip 4501", "ip 4502")
	kept := bytes.Clone(line)
	out, _ := r.l.Feed(0, line)
	if !bytes.Equal(line, kept) {
		t.Error("what was handed in was changed")
	}
	clear(out[0].B)
	_ = append(out[0].B, 9, 9, 9, 9)
	_ = append(out[:1], api.Out{})
	more, e := r.l.Feed(0, line)
	r.puts(more, e, "tun 4501", "tun 4502")
	packet := []byte{0x45, 1, 2}
	first, _ := r.l.Send(0, packet)
	clear(first[0].B)
	if !bytes.Equal(packet, []byte{0x45, 1, 2}) {
		t.Error(packet)
	}
	r.sends("450102", "ip 450102")
}
