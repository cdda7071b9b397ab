package link

import (
	"encoding/hex"
	"strings"
	"testing"

	"tether/api"
	"tether/ccp"
	"tether/hdlc"
	"tether/meter"
	"tether/phase"
)

// Networks begin

func TestNetworksBeginAsThereAre(t *testing.T) {
	ip6, comp := "ipv6cp 1 1 010a0000000000000005", "ccp 1 1 1a045800150329"
	for _, k := range []struct {
		change func(c *api.Conf)
		then   []string
	}{
		{func(c *api.Conf) {}, nil},
		{func(c *api.Conf) { c.Ipv6, c.LocalId = true, 5 }, []string{ip6}},
		{func(c *api.Conf) { c.Deflate, c.Bsd = 13, 9 }, []string{comp}},
		{func(c *api.Conf) { c.Ipv6, c.LocalId, c.Deflate, c.Bsd = true, 5, 13, 9 }, []string{ip6, comp}},
		{func(c *api.Conf) { c.Bsd = 9 }, []string{"ccp 1 1 150329"}},
	} {
		r := of(t, changed(k.change)).opened("", "", append([]string{ipRequest}, k.then...)...)
		r.lost()
		r.opened("", "", func() []string {
			var anew []string
			for _, s := range append([]string{ipRequest}, k.then...) {
				anew = append(anew, strings.Replace(s, " 1 1 ", " 1 2 ", 1))
			}
			return anew
		}()...)
	}
}

func TestNetworksAreMadeReady(t *testing.T) {
	r := of(t, changed(func(c *api.Conf) {
		c.LocalIp, c.UseDns, c.Deflate, c.MaxFailure = 0, true, 13, 1
	})).opened("", "", "ipcp 1 1 030600000000810600000000830600000000", "ccp 1 1 1a045800")
	r.comes("ipcp 3 1 03060a000007810608080808", "ipcp 1 2 03060a000007810608080808830600000000")
	r.comes("ipcp 4 2 830600000000", "ipcp 1 3 03060a000007810608080808")
	r.comes("ipcp 2 3 03060a000007810608080808").comes("ipcp 1 5 03060a000009", "ipcp 2 5 03060a000009")
	r.comes("ccp 1 5 1a04f800", "ccp 3 5 1a045800").comes("ccp 4 1 1a045800", "ccp 1 2")
	if a, b := r.l.Addrs(); a != 0x0a000007 || b != 0x0a000009 {
		t.Error(a, b)
	}
	r.comes("lcp 1 2", "lcp 1 2", "lcp 2 2").is(phase.Establish, api.SAckSent, api.SStarting, api.SInitial, api.SStarting)
	r.comes("lcp 2 2", "ipcp 1 4 030600000000810600000000830600000000", "ccp 1 3 1a045800")
	r.comes("ccp 1 5 1a04f800", "ccp 3 5 1a045800") // naks are counted anew
	r.drops("ipcp 2 3 03060a000007810608080808")
	r.comes("ipcp 2 4 030600000000810600000000830600000000").comes("ipcp 1 6", "ipcp 2 6", "ipcp 5 5") // and what the other end had is forgotten
}

func TestPacketsOfNetworksPassInNetworkAlone(t *testing.T) {
	r := of(t, changed(func(c *api.Conf) { c.Require, c.Ipv6, c.Bsd = api.MPap, true, 9 })).open("lcp 1 1 0304c023")
	pass := func() {
		t.Helper()
		r.drops("ipcp 1 1").drops("ipv6cp 1 1").drops("ccp 1 1").drops("ip 45").drops("ipv6 60").drops("comp 00")
	}
	pass()
	r.drops("pap 1 1 00").drops("chap 1 1").drops("eap 1 1")
	r.comes("lcp 2 1 0304c023").comes("lcp 1 1", "lcp 2 1").is(phase.Authenticate)
	pass()
	r.close("lcp 5 2").is(phase.Terminate)
	pass()
	r.drops("pap 1 1 0000")
}

// IPCP

func TestIpCanNotBeWithoutAnAddress(t *testing.T) {
	r := of(t, changed(func(c *api.Conf) { c.LocalIp = 0 })).opened("", "", "ipcp 1 1 030600000000")
	r.comes("ipcp 1 1 03060a000002", "ipcp 2 1 03060a000002")
	r.comes("ipcp 2 1 030600000000", "ipcp 5 2").is(phase.Network, api.SOpened, api.SClosing).due(3000)
	r.comes("ipcp 6 2").is(phase.Network, api.SOpened, api.SClosed)
	r = of(t, changed(func(c *api.Conf) { c.LocalIp = 0 })).opened("", "", "ipcp 1 1 030600000000")
	r.comes("ipcp 4 1 030600000000", "ipcp 1 2").comes("ipcp 2 2").comes(ipTheirs, "ipcp 2 1 03060a000002", "ipcp 5 3")
}

func TestIpCanNotBeWithOneAddressForBoth(t *testing.T) {
	r := of(t, plain()).opened("", "", ipRequest).comes("ipcp 2 1 " + ipOption)
	r.comes("ipcp 1 1 "+ipOption, "ipcp 2 1 "+ipOption, "ipcp 5 2").is(phase.Network, api.SOpened, api.SClosing)
}

func TestAnAddressIsGiven(t *testing.T) {
	r := given(t, plain(), 0x0a000063).opened("", "", ipRequest).comes("ipcp 2 1 " + ipOption)
	r.comes("ipcp 1 1 030600000000", "ipcp 3 1 03060a000063").comes("ipcp 1 2 03060a000063", "ipcp 2 2 03060a000063")
	if a, b := r.l.Addrs(); a != 0x0a000001 || b != 0x0a000063 {
		t.Error(a, b)
	}
	r = given(t, plain(), 0).opened("", "", ipRequest)
	r.comes("ipcp 1 1 030600000000", "ipcp 4 1 030600000000")
}

// allowedSecrets are alice's, with one address.
func allowedSecrets(addrs ...int64) []api.Secret {
	return []api.Secret{{Client: "alice", Server: "mill", Word: "x", Addrs: addrs}, {Client: "*", Server: "*", Word: "x"}}
}

const (
	saysAlice = "05" + "616c696365" + "0178"
	welcome   = "07" + "77656c636f6d65"
)

func TestWhoHasProvedItMayHaveItsAddressesAlone(t *testing.T) {
	for _, k := range []struct {
		addrs  []int64
		asks   string
		closed bool
	}{
		{nil, "03060a000002", false},
		{[]int64{0x0a000002}, "03060a000002", false},
		{[]int64{0x0a000003, 0x0a000002}, "03060a000002", false},
		{[]int64{0x0a000003}, "03060a000002", true},
		{[]int64{0x0a000003}, "", false}, // it told none
	} {
		r := of(t, changed(func(c *api.Conf) { c.Require = api.MPap }), allowedSecrets(k.addrs...)...).opened("0304c023", "")
		r.comes("pap 1 1 "+saysAlice, "pap 2 1 "+welcome, ipRequest).comes("ipcp 2 1 " + ipOption)
		answer := strings.TrimSpace("ipcp 2 1 " + k.asks)
		if k.closed {
			r.comes("ipcp 1 1 "+k.asks, answer, "ipcp 5 2").is(phase.Network, api.SOpened, api.SClosing)
		} else {
			r.comes("ipcp 1 1 "+k.asks, answer).is(phase.Network, api.SOpened, api.SOpened)
		}
	}
	r := of(t, plain(), allowedSecrets(5)...).opened("", "", ipRequest).ipUp() // nobody need prove it
	r.is(phase.Network, api.SOpened, api.SOpened)
}

// IPV6CP

const ip6Request = "ipv6cp 1 1 010a0000000000000005"

// withIpv6 answers a rig whose identifier is 5.
func withIpv6(t *testing.T) *rig {
	t.Helper()
	return of(t, changed(func(c *api.Conf) { c.Ipv6, c.LocalId = true, 5 })).opened("", "", ipRequest, ip6Request)
}

func TestIpv6(t *testing.T) {
	r := withIpv6(t).drops("ipv6 60")
	r.refused(api.ErrState, func() ([]api.Out, api.Errno) { return r.l.Send(0, []byte{0x60}) })
	r.comes("ipv6cp 2 1 010a0000000000000005").comes("ipv6cp 1 1 010a0000000000000007", "ipv6cp 2 1 010a0000000000000007")
	a, b := r.l.Ids()
	ip, ip6 := r.l.Ready()
	if a != 5 || b != 7 || ip || !ip6 {
		t.Error(a, b, ip, ip6)
	}
	r.comes("ipv6 6001", "tun 6001").sends("6002", "ipv6 6002").drops("ip 45")
	r.refused(api.ErrState, func() ([]api.Out, api.Errno) { return r.l.Send(0, []byte{0x45}) })
	if r.l.Counts(true).Packets != 1 || r.l.Counts(false).Packets != 1 {
		t.Error(r.l.Counts(true), r.l.Counts(false))
	}
	r.comes("ipv6cp 5 1", "ipv6cp 6 1").drops("ipv6 6001")
	if a, b := r.l.Ids(); a != 0 || b != 0 {
		t.Error(a, b)
	}
}

func TestIdentifiersAreDrawn(t *testing.T) {
	own := func(n int) string { return "010a" + digits(drawn(1, n)[n-1], 8) }
	r := of(t, changed(func(c *api.Conf) { c.Ipv6 = true })).open("lcp 1 1").comes("lcp 2 1")
	r.comes("lcp 1 1", "lcp 2 1", ipRequest, "ipv6cp 1 1 "+own(3))
	r.comes("ipv6cp 1 1 010a0000000000000000", "ipv6cp 3 1 "+own(4))
	r.comes("ipv6cp 1 2 010a0000000000000007", "ipv6cp 2 2 010a0000000000000007") // a draw, in any case
	r.comes("ipv6cp 3 1 010a0000000000000000", "ipv6cp 1 2 "+own(6))
	r.comes("ipv6cp 3 2 010a0000000000000009", "ipv6cp 1 3 010a0000000000000009")
	r.comes("ipv6cp 1 3 010a0000000000000009", "ipv6cp 3 3 "+own(8))
}

func TestIpv6CanNotBeWithoutIdentifiersThatDiffer(t *testing.T) {
	r := withIpv6(t).comes("ipv6cp 2 1 010a0000000000000005")
	r.comes("ipv6cp 1 1", "ipv6cp 3 1 010a"+digits(drawn(1, 4)[3], 8))                                           // it is told one, once
	r.comes("ipv6cp 1 2", "ipv6cp 2 2", "ipv6cp 5 2").is(phase.Network, api.SOpened, api.SReqSent, api.SClosing) // without one there is no going on
	r = withIpv6(t).comes("ipv6cp 4 1 010a0000000000000005", "ipv6cp 5 2").is(phase.Network, api.SOpened, api.SReqSent, api.SClosing)
	r = withIpv6(t).comes("ipv6cp 1 1 010a0000000000000007", "ipv6cp 2 1 010a0000000000000007")
	r.comes("ipv6cp 3 1 010a0000000000000007", "ipv6cp 1 2 010a0000000000000007")
	r.comes("ipv6cp 2 2 010a0000000000000007", "ipv6cp 5 3").is(phase.Network, api.SOpened, api.SReqSent, api.SClosing) // the same one for both
}

// CCP

// compressing answers a rig with IP in Opened, and CCP as both ends ask.
func compressing(t *testing.T, mine, theirs string, change func(c *api.Conf)) *rig {
	t.Helper()
	r := of(t, changed(change)).opened("", "", ipRequest, "ccp 1 1 "+mine).ipUp()
	return r.comes("ccp 2 1 "+mine).comes(strings.TrimSpace("ccp 1 1 "+theirs), strings.TrimSpace("ccp 2 1 "+theirs)).is(phase.Network, api.SOpened, api.SOpened, api.SInitial, api.SOpened)
}

func deflates(c *api.Conf) { c.Deflate = 12 }

// packs answers frames as the other end's sender packs them, as texts.
func packs(t *testing.T, s *ccp.Sender, packets ...string) []string {
	t.Helper()
	var out []string
	for _, p := range packets {
		b, err := hex.DecodeString(p)
		f, e := s.Send(api.Frame{Proto: api.PIp, Info: b})
		if err != nil || e != api.OK {
			t.Fatal(err, e)
		}
		out = append(out, show(f))
	}
	return out
}

var zeros = "45" + strings.Repeat("00", 99)

func TestPacketsGoAndComeCompressed(t *testing.T) {
	r := compressing(t, "1a044800", "1a042800", deflates) // the other end can unpack with fewer bits
	s := ccp.NewSender(ccp.Opts{Deflate: 10})
	packed := packs(t, s, zeros, "4501", zeros)
	if !strings.HasPrefix(packed[0], "comp 0000") || packed[1] != "ip 4501" || !strings.HasPrefix(packed[2], "comp 0002") {
		t.Fatal(packed)
	}
	r.sends(zeros, packed[0]).sends("4501", packed[1]).sends(zeros, packed[2])
	wire := int64(len(packed[0])-len("comp "))/2 + 2 + int64(len(packed[2])-len("comp "))/2
	if got := r.l.Counts(true); got != (meter.Counts{Packets: 3, Bytes: 202, Wire: wire}) {
		t.Error(got, wire)
	}
	theirs := packs(t, ccp.NewSender(ccp.Opts{Deflate: 12}), zeros, "4501", zeros)
	r.comes(theirs[0], "tun "+zeros).comes(theirs[1], "tun 4501").comes(theirs[2], "tun "+zeros)
	if got := r.l.Counts(false); got.Packets != 3 || got.Bytes != 202 || got.Wire >= 60 {
		t.Error(got)
	}
}

func TestBothWaysMayHaveUnlikeMethods(t *testing.T) {
	r := compressing(t, "1a044800150329", "150329", func(c *api.Conf) { c.Deflate, c.Bsd = 12, 9 })
	r.sends(zeros, packs(t, ccp.NewSender(ccp.Opts{Bsd: 9}), zeros)[0])
	r.comes(packs(t, ccp.NewSender(ccp.Opts{Deflate: 12, Bsd: 9}), zeros)[0], "tun "+zeros)
}

func TestWithoutAMethodPacketsGoAsTheyAre(t *testing.T) {
	r := compressing(t, "1a044800", "", deflates).sends(zeros, "ip "+zeros).comes("ip "+zeros, "tun "+zeros)
	r = of(t, changed(deflates)).opened("", "", ipRequest, "ccp 1 1 1a044800").ipUp()
	r.sends(zeros, "ip "+zeros).drops("comp 0000") // CCP is not in Opened
	r.comes("ccp 4 1 1a044800", "ccp 1 2").comes("ccp 2 2").comes("ccp 1 1 1a044800", "ccp 2 1 1a044800")
	r.sends(zeros, packs(t, ccp.NewSender(ccp.Opts{Deflate: 12}), zeros)[0])
	r.drops("comp 0000").comes("ip 4501", "tun 4501") // no method, no reset
}

func TestAFrameThatCanNotBeUnpacked(t *testing.T) {
	r := compressing(t, "1a044800", "1a044800", deflates)
	s := ccp.NewSender(ccp.Opts{Deflate: 12})
	packed := packs(t, s, zeros, zeros, zeros)
	r.comes(packed[0], "tun "+zeros)
	r.drops(packed[2], "ccp 14 2").drops(packed[2], "ccp 14 3") // one is lost; it asks with each such frame
	r.comes("ip 4501", "tun 4501")
	r.drops("ccp 15 2").drops("ccp 15 4").comes("ccp 15 3").drops("ccp 15 3")
	r.comes(packs(t, ccp.NewSender(ccp.Opts{Deflate: 12}), zeros)[0], "tun "+zeros)
	r.drops("comp 0099", "ccp 14 4").comes("ccp 99 9", "ccp 7 5 63090004")
	if got := r.l.Counts(false); got.Packets != 3 {
		t.Error(got)
	}
}

func TestAResetRequest(t *testing.T) {
	r := compressing(t, "1a044800", "1a044800", deflates)
	first := packs(t, ccp.NewSender(ccp.Opts{Deflate: 12}), zeros, zeros)
	r.sends(zeros, first[0]).sends(zeros, first[1])
	r.comes("ccp 14 200", "ccp 15 200").sends(zeros, first[0])
	r.comes("ccp 5 1", "ccp 6 1").drops("ccp 14 7").drops("ccp 15 7").is(phase.Network, api.SOpened, api.SOpened, api.SInitial, api.SStopping)
	r.sends(zeros, "ip "+zeros)
}

func TestFramesThatComeAsTheyAreAreLearned(t *testing.T) {
	r := of(t, changed(func(c *api.Conf) { c.Deflate, c.Ipv6, c.LocalId = 12, true, 5 }))
	r.opened("", "", ipRequest, ip6Request, "ccp 1 1 1a044800").ipUp().comes("ccp 2 1 1a044800").comes("ccp 1 1", "ccp 2 1")
	s := ccp.NewSender(ccp.Opts{Deflate: 12})
	plainOnes := packs(t, s, "4501", "4502")
	s.Send(api.Frame{Proto: api.PIpv6, Info: []byte{0x60}})
	r.comes(plainOnes[0], "tun 4501").comes(plainOnes[1], "tun 4502").drops("ipv6 60") // learned all the same
	r.comes(packs(t, s, zeros)[0], "tun "+zeros)
	r.drops("2b 0102", "lcp 8 2 002b0102") // of a protocol that is not here: not learned
	r.comes(packs(t, s, zeros)[0], "tun "+zeros)
	r.comes("ipcp 5 9", "ipcp 6 9").drops(packs(t, s, zeros)[0]).drops(packs(t, s, "4501")[0]) // unpacked, and then dropped
	r.is(phase.Network, api.SOpened, api.SStopping, api.SReqSent, api.SOpened)
}

func TestAPackedFrameOfAProtocolThatIsNotHere(t *testing.T) {
	r := compressing(t, "1a044800", "1a044800", deflates)
	s := ccp.NewSender(ccp.Opts{Deflate: 12})
	f, _ := s.Send(api.Frame{Proto: 0x2b, Info: make([]byte, 60)})
	r.drops(show(f), "lcp 8 2 002b"+strings.Repeat("00", 60))
	g, _ := s.Send(api.Frame{Proto: api.PIpv6, Info: make([]byte, 60)})
	r.drops(show(g), "lcp 8 3 0057"+strings.Repeat("00", 60))
	if r.l.Counts(false).Packets != 0 || r.l.Dropped() != 2 {
		t.Error(r.l.Counts(false), r.l.Dropped())
	}
}

func TestCompressionBeginsAnewWithCcp(t *testing.T) {
	r := compressing(t, "1a044800", "1a044800", deflates)
	packed := packs(t, ccp.NewSender(ccp.Opts{Deflate: 12}), zeros, zeros)
	r.sends(zeros, packed[0]).comes(packed[0], "tun "+zeros)
	r.comes("ccp 1 2 1a042800", "ccp 1 2 1a044800", "ccp 2 2 1a042800").sends(zeros, "ip "+zeros).drops(packed[1])
	r.comes("ccp 2 2 1a044800").sends(zeros, packs(t, ccp.NewSender(ccp.Opts{Deflate: 10}), zeros)[0])
	r.comes(packed[0], "tun "+zeros)
}

func TestAFrameTooLongToBeUnpacked(t *testing.T) {
	r := compressing(t, "1a044800", "1a044800", deflates)
	b, e := hdlc.Encode(api.Frame{Proto: api.PComp, Info: make([]byte, api.MaxMru)}, hdlc.Send{Pfc: true, Acfc: true})
	if e != api.OK {
		t.Fatal(e)
	}
	out, e := r.l.Feed(0, b)
	r.puts(out, e, "ccp 14 2")
	if r.l.Dropped() != 1 {
		t.Error(r.l.Dropped())
	}
}

// A packet's size

func TestAPacketMayHaveAsManyBytesAsTheOtherEndsMru(t *testing.T) {
	for _, k := range []struct {
		option string
		mru    int
	}{{"", 1500}, {"01040040", 64}, {"01044000", api.MaxMru}} {
		r := of(t, plain()).opened("", k.option, ipRequest).ipUp()
		r.sends("45"+strings.Repeat("ab", k.mru-1), "ip 45"+strings.Repeat("ab", k.mru-1))
		r.refused(api.ErrSize, func() ([]api.Out, api.Errno) { return r.l.Send(0, append([]byte{0x45}, make([]byte, k.mru)...)) })
		r.comes("ip "+strings.Repeat("ab", min(2*k.mru, api.MaxMru)), "tun "+strings.Repeat("ab", min(2*k.mru, api.MaxMru))) // this end takes longer ones
	}
}

func TestTheLongestPacketWithCompression(t *testing.T) {
	r := of(t, changed(deflates)).opened("", "01044000", ipRequest, "ccp 1 1 1a044800").ipUp()
	r.comes("ccp 2 1 1a044800").comes("ccp 1 1 1a044800", "ccp 2 1 1a044800")
	longest := "45" + strings.Repeat("00", api.MaxMru-1)
	r.sends(longest, "ip "+longest) // with its number it is too long to be packed
	r.sends(zeros, packs(t, ccp.NewSender(ccp.Opts{Deflate: 12}), zeros)[0])
}

// Network's automata in Network

func TestANetworkThatHasFinishedDoesNothingMore(t *testing.T) {
	r := of(t, changed(func(c *api.Conf) { c.MaxConfigure = 2 })).opened("", "", ipRequest)
	r.at(3000, "ipcp 1 2 03060a000001").at(6000).is(phase.Network, api.SOpened, api.SStopped).due(-1)
	r.comes("ipcp 99 9", "ipcp 7 3 63090004")
}
