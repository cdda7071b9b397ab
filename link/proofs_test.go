package link

import (
	"encoding/hex"
	"strconv"
	"strings"
	"testing"

	"tether/api"
	"tether/chap"
	"tether/eap"
	"tether/phase"
)

// aliceAndMill are the secrets that both ends have.
func aliceAndMill() []api.Secret {
	return []api.Secret{{Client: "alice", Server: "mill", Word: "x"}, {Client: "mill", Server: "alice", Word: "y"}}
}

// requiring answers plain, where the other end must prove who it is.
func requiring(method int, changes ...func(c *api.Conf)) api.Conf {
	return changed(append([]func(c *api.Conf){func(c *api.Conf) { c.Require, c.Remote = method, "alice" }}, changes...)...)
}

// The options by which methods are asked for.
const (
	byPap  = "0304c023"
	byChap = "0305c22305"
	byEap  = "0304c227"
)

// challenge answers the digits of the challenge that the draws from the n-th on make.
func challenge(n int) string {
	l := drawn(1, n+1)
	return digits(l[n-1], 8) + digits(l[n], 8)
}

// chapAsks answers the Challenge of mill with such a one.
func chapAsks(id, n int) string {
	return show(api.Frame{Proto: api.PChap, Info: append([]byte{1, byte(id), 0, 25, 16}, append(unhex(challenge(n)), "mill"...)...)})
}

func unhex(s string) []byte {
	b, err := hex.DecodeString(s)
	if err != nil {
		panic(err)
	}
	return b
}

// chapSays answers what who is called name says to a Challenge that a link has sent.
func (r *rig) chapSays(asked, name string, l []api.Secret) string {
	r.Helper()
	f := r.raw(asked)
	q, e := chap.Answer(api.Packet{Code: 1, Id: int(f.Info[1]), Data: f.Info[4:]}, name, "", l)
	if e != api.OK {
		r.Fatal(e)
	}
	return r.text("chap", q)
}

// text answers a packet as text.
func (r *rig) text(name string, q api.Packet) string {
	r.Helper()
	return show(r.raw(strings.TrimSpace(name + " " + strconv.Itoa(q.Code) + " " + strconv.Itoa(q.Id) + " " + hex.EncodeToString(q.Data))))
}

func messageOf(s string) string {
	return hex.EncodeToString([]byte(s))
}

// PAP: the other end's

func TestTheOtherEndProvesItByPap(t *testing.T) {
	r := of(t, requiring(api.MPap), aliceAndMill()...).opened(byPap, "").is(phase.Authenticate).due(3000)
	r.drops("pap 1 1 00").drops("pap 2 1 00").drops("pap 3 1 00").drops("pap 9 1").drops("pap : 0101").drops("chap 1 1").drops("eap 2 1 01")
	if r.l.Who() != "" {
		t.Error(r.l.Who())
	}
	r.comes("pap 1 7 "+saysAlice, "pap 2 7 "+welcome, ipRequest).is(phase.Network, api.SOpened, api.SReqSent)
	if r.l.Who() != "alice" {
		t.Error(r.l.Who())
	}
	r.due(3000).comes("ipcp 2 1 "+ipOption).comes(ipTheirs, "ipcp 2 1 03060a000002").due(-1)
	r.comes("pap 1 8 0000", "pap 2 8 "+welcome).is(phase.Network, api.SOpened, api.SOpened) // as the first one
	r.lost()
	if r.l.Who() != "" {
		t.Error(r.l.Who())
	}
}

func TestTheOtherEndFailsByPap(t *testing.T) {
	r := of(t, requiring(api.MPap), aliceAndMill()...).opened(byPap, "")
	r.comes("pap 1 7 05616c6963650179", "pap 3 7 07"+messageOf("refused"), "lcp 5 2").is(phase.Terminate, api.SClosing)
	r.drops("pap 1 8 " + saysAlice).comes("lcp 6 2").is(phase.Dead)
}

func TestTheOtherEndSaysNothingByPap(t *testing.T) {
	r := of(t, requiring(api.MPap, func(c *api.Conf) { c.MaxConfigure = 3 }), aliceAndMill()...).opened(byPap, "")
	r.at(3000).due(6000).at(8999).due(11999).at(11998).is(phase.Authenticate)
	r.at(11999, "lcp 5 2").is(phase.Terminate, api.SClosing)
}

// PAP: this end's

func TestThisEndProvesItByPap(t *testing.T) {
	r := of(t, requiring(0), aliceAndMill()...).opened("", byPap, "pap 1 1 046d696c6c0179").is(phase.Authenticate).due(3000)
	r.at(3000, "pap 1 2 046d696c6c0179").due(6000).drops("pap 2 1 00").drops("pap 1 2 " + saysAlice).drops("pap 2 2 0100")
	r.comes("pap 2 2 00", ipRequest).is(phase.Network).drops("pap 2 2 00").drops("pap 3 2 00")
	r.at(6000, "ipcp 1 2 03060a000001")
	if r.l.Who() != "" {
		t.Error(r.l.Who())
	}
}

func TestThisEndFailsByPap(t *testing.T) {
	r := of(t, requiring(0), aliceAndMill()...).opened("", byPap, "pap 1 1 046d696c6c0179")
	r.comes("pap 3 1 00", "lcp 5 2").is(phase.Terminate, api.SClosing)
}

func TestNobodyAnswersThisEndsPap(t *testing.T) {
	r := of(t, requiring(0, func(c *api.Conf) { c.MaxConfigure = 2 }), aliceAndMill()...).opened("", byPap, "pap 1 1 046d696c6c0179")
	r.at(3000, "pap 1 2 046d696c6c0179").at(6000, "lcp 5 2").is(phase.Terminate)
}

func TestThisEndHasNoWordForPap(t *testing.T) {
	for _, l := range [][]api.Secret{nil, {{Client: "mill", Server: "bob", Word: "x"}}, {{Client: "mill", Server: "alice"}}} {
		of(t, requiring(0), l...).opened("", byPap, "lcp 5 2").is(phase.Terminate, api.SClosing).due(3000)
	}
	c := requiring(0, func(c *api.Conf) { c.Remote = "" }) // then a line for any server alone can be meant
	of(t, c, aliceAndMill()...).opened("", byPap, "lcp 5 2")
	of(t, c, api.Secret{Client: "mill", Server: "*", Word: "y"}).opened("", byPap, "pap 1 1 046d696c6c0179")
}

// CHAP: the other end's

func TestTheOtherEndProvesItByChap(t *testing.T) {
	l := aliceAndMill()
	first := chapAsks(1, 3) // behind the draws of LCP
	r := of(t, requiring(api.MChap), l...).opened(byChap, "", first).is(phase.Authenticate).due(3000)
	r.at(3000, first).due(6000) // the same Challenge
	r.drops("chap 1 1 0100" + messageOf("alice")).drops("chap 3 1").drops("chap 4 1").drops("pap 1 1 " + saysAlice)
	r.drops("chap 2 2 1000").drops("chap 2 1 00").drops("chap 2 1 0500")
	says := r.chapSays(first, "alice", l)
	r.comes(says, "chap 3 1 "+messageOf("welcome"), ipRequest).is(phase.Network)
	if r.l.Who() != "alice" {
		t.Error(r.l.Who())
	}
	r.comes(says, "chap 3 1 "+messageOf("welcome")).comes("chap 2 1", "chap 3 1 "+messageOf("welcome"))
	r.comes("ipcp 2 1 "+ipOption).comes(ipTheirs, "ipcp 2 1 03060a000002").due(-1)
}

func TestTheOtherEndFailsByChap(t *testing.T) {
	l := aliceAndMill()
	for _, k := range []struct {
		name string
		word string
	}{{"alice", "z"}, {"bob", "x"}, {"mill", "y"}} {
		r := of(t, requiring(api.MChap), l...).opened(byChap, "", chapAsks(1, 3))
		says := r.chapSays(chapAsks(1, 3), k.name, []api.Secret{{Client: "*", Server: "*", Word: k.word}})
		r.comes(says, "chap 4 1 "+messageOf("authentication failed"), "lcp 5 2").is(phase.Terminate, api.SClosing)
		if r.l.Who() != "" {
			t.Error(r.l.Who())
		}
	}
}

func TestTheOtherEndSaysNothingByChap(t *testing.T) {
	r := of(t, requiring(api.MChap, func(c *api.Conf) { c.MaxConfigure = 3 })).opened(byChap, "", chapAsks(1, 3))
	r.at(3000, chapAsks(1, 3)).at(6000, chapAsks(1, 3)).at(9000, "lcp 5 2").is(phase.Terminate)
}

func TestIdentifiersAndDrawsOfChallengesGoOn(t *testing.T) {
	r := of(t, requiring(api.MChap)).opened(byChap, "", chapAsks(1, 3)).lost()
	r.open("lcp 1 2 " + byChap).comes("lcp 2 2 " + byChap)
	r.comes("lcp 1 1", "lcp 2 1", chapAsks(2, 7)) // two draws of LCP more
}

func TestAChallengeIsAskedAnew(t *testing.T) {
	l := aliceAndMill()
	r := of(t, requiring(api.MChap, func(c *api.Conf) { c.Rechallenge, c.Restart, c.MaxConfigure = 10000, 3000, 2 }), l...).opened(byChap, "", chapAsks(1, 3)).at(500)
	r.comes(r.chapSays(chapAsks(1, 3), "alice", l), "chap 3 1 "+messageOf("welcome"), ipRequest)
	r.comes("ipcp 2 1 "+ipOption).comes(ipTheirs, "ipcp 2 1 03060a000002").due(10500)
	r.at(10499).at(10500, chapAsks(2, 5)).due(13500)
	if r.l.Who() != "alice" {
		t.Error(r.l.Who())
	}
	r.sends("4501", "ip 4501").comes("ip 45", "tun 45") // it goes on meanwhile
	r.at(13500, chapAsks(2, 5)).due(16500)
	r.drops(r.chapSays(chapAsks(1, 3), "alice", l))
	r.comes(r.chapSays(chapAsks(2, 5), "alice", l), "chap 3 2 "+messageOf("welcome")).is(phase.Network).due(20500)
	r.at(20500, chapAsks(3, 7)).at(23500, chapAsks(3, 7)).at(26500, "lcp 5 2").is(phase.Terminate)
	if r.l.Who() != "" {
		t.Error(r.l.Who())
	}
	r.due(29500)
}

func TestOneThatIsAskedAnewFails(t *testing.T) {
	l := aliceAndMill()
	r := of(t, requiring(api.MChap, func(c *api.Conf) { c.Rechallenge = 10000 }), l...).opened(byChap, "", chapAsks(1, 3))
	r.comes(r.chapSays(chapAsks(1, 3), "alice", l), "chap 3 1 "+messageOf("welcome"), ipRequest)
	r.comes("ipcp 2 1 "+ipOption).comes(ipTheirs, "ipcp 2 1 03060a000002").at(10000, chapAsks(2, 5))
	says := r.chapSays(chapAsks(2, 5), "alice", []api.Secret{{Client: "*", Server: "*", Word: "z"}})
	r.comes(says, "chap 4 2 "+messageOf("authentication failed"), "lcp 5 2").is(phase.Terminate, api.SClosing, api.SStarting)
	r.refused(api.ErrState, func() ([]api.Out, api.Errno) { return r.l.Send(r.now, []byte{0x45}) })
}

func TestARechallengeThatFindsTheLastOneUndecided(t *testing.T) {
	l := aliceAndMill()
	r := of(t, requiring(api.MChap, func(c *api.Conf) { c.Rechallenge, c.Restart = 1000, 3000 }), l...).opened(byChap, "", chapAsks(1, 3))
	r.comes(r.chapSays(chapAsks(1, 3), "alice", l), "chap 3 1 "+messageOf("welcome"), ipRequest)
	r.comes("ipcp 2 1 "+ipOption).comes(ipTheirs, "ipcp 2 1 03060a000002")
	r.at(1000, chapAsks(2, 5)).due(2000).at(2000).due(3000).at(3000).due(4000).at(4000, chapAsks(2, 5)).due(5000)
	r.comes(r.chapSays(chapAsks(2, 5), "alice", l), "chap 3 2 "+messageOf("welcome")).due(5000).at(5000, chapAsks(3, 7))
}

func TestPapIsNotAskedAnew(t *testing.T) {
	r := of(t, requiring(api.MPap, func(c *api.Conf) { c.Rechallenge = 1000 }), aliceAndMill()...).opened(byPap, "")
	r.comes("pap 1 1 "+saysAlice, "pap 2 1 "+welcome, ipRequest).comes("ipcp 2 1 "+ipOption).comes(ipTheirs, "ipcp 2 1 03060a000002").due(-1)
	up(t, func(c *api.Conf) { c.Rechallenge = 1000 }).due(-1) // nor is an end that need not prove it
}

func TestWhatIsForgottenIsNotAskedAnew(t *testing.T) {
	l := aliceAndMill()
	r := of(t, requiring(api.MChap, func(c *api.Conf) { c.Rechallenge, c.EchoEvery = 1000, 800 }), l...).opened(byChap, "", chapAsks(1, 3))
	r.comes(r.chapSays(chapAsks(1, 3), "alice", l), "chap 3 1 "+messageOf("welcome"), ipRequest).due(800)
	r.comes("lcp 1 2", "lcp 1 2 "+byChap, "lcp 2 2").is(phase.Establish).due(3000)
	if r.l.Who() != "" {
		t.Error(r.l.Who())
	}
	r.comes("lcp 2 2 "+byChap, chapAsks(2, 6)).is(phase.Authenticate, api.SOpened, api.SStarting) // it must prove it again
	r.drops("ip 45").drops("ipcp 2 1 " + ipOption)
	r.comes(r.chapSays(chapAsks(2, 6), "alice", l), "chap 3 2 "+messageOf("welcome"), "ipcp 1 2 03060a000001").is(phase.Network)
}

// CHAP: this end's

// asksMill is a Challenge of alice.
func asksMill(id int) string {
	return "chap 1 " + strconv.Itoa(id) + " 03616263" + messageOf("alice")
}

// millSays is what mill says to it.
func (r *rig) millSays(id int) string {
	r.Helper()
	q, e := chap.Answer(api.Packet{Code: 1, Id: id, Data: append([]byte{3}, "abcalice"...)}, "mill", "", aliceAndMill())
	if e != api.OK {
		r.Fatal(e)
	}
	return r.text("chap", q)
}

func TestThisEndProvesItByChap(t *testing.T) {
	r := of(t, requiring(0), aliceAndMill()...).opened("", byChap).is(phase.Authenticate).due(3000)
	r.drops("chap 3 1").drops("chap 4 1").drops("chap 3 0").drops("chap 2 1 0100" + messageOf("alice")).drops("chap 1 1").drops("chap 1 1 00")
	r.comes(asksMill(9), r.millSays(9)).drops("chap 3 8").drops("chap 4 8")
	r.comes(asksMill(10), r.millSays(10)).drops("chap 3 9")
	r.comes("chap 3 10", ipRequest).is(phase.Network).drops("chap 3 10").drops("chap 4 10")
	r.due(3000).comes("ipcp 2 1 "+ipOption).comes(ipTheirs, "ipcp 2 1 03060a000002").due(-1)
	r.comes(asksMill(11), r.millSays(11)).due(-1).drops("chap 3 10").comes("chap 3 11").due(-1)
}

func TestThisEndFailsByChap(t *testing.T) {
	r := of(t, requiring(0), aliceAndMill()...).opened("", byChap)
	r.comes(asksMill(9), r.millSays(9)).comes("chap 4 9 "+messageOf("no"), "lcp 5 2").is(phase.Terminate, api.SClosing)
	r = of(t, requiring(0), aliceAndMill()...).opened("", byChap)
	r.comes(asksMill(9), r.millSays(9)).comes("chap 3 9", ipRequest)
	r.comes(asksMill(7), r.millSays(7)).comes("chap 4 7", "lcp 5 2").is(phase.Terminate, api.SClosing, api.SStarting) // asked anew
}

func TestThisEndHasNoWordForChap(t *testing.T) {
	r := of(t, requiring(0), aliceAndMill()[0]).opened("", byChap)
	r.comes(asksMill(9), "lcp 5 2").is(phase.Terminate, api.SClosing)
	if r.l.Dropped() != 0 {
		t.Error("it is bad, and not dropped")
	}
	c := requiring(0, func(c *api.Conf) { c.Remote = "" }) // who asks is who it says
	r = of(t, c, aliceAndMill()...).opened("", byChap)
	r.comes(asksMill(9), r.millSays(9))
	of(t, c, aliceAndMill()...).opened("", byChap).comes("chap 1 9 03616263"+messageOf("bob"), "lcp 5 2")
	r = of(t, requiring(0), aliceAndMill()...).opened("", byChap)
	f := r.raw(r.millSays(9))
	r.comes("chap 1 9 03616263"+messageOf("bob"), show(f)) // the name that is known ahead goes ahead
}

func TestNobodyAsksThisEnd(t *testing.T) {
	for _, by := range []string{byChap, byEap} {
		r := of(t, requiring(0, func(c *api.Conf) { c.MaxConfigure = 2 }), aliceAndMill()...).opened("", by)
		r.at(3000).due(6000).at(6000, "lcp 5 2").is(phase.Terminate)
	}
	r := of(t, requiring(0, func(c *api.Conf) { c.MaxConfigure = 2 }), aliceAndMill()...).opened("", byChap).at(3000)
	r.comes(asksMill(9), r.millSays(9)).due(6000).at(6000, "lcp 5 2") // nor tells it what came of it
}

func TestWhatNeedNotBeProvedIsDropped(t *testing.T) {
	r := up(t).drops(asksMill(9)).drops("eap 1 1 01").drops("eap 2 1 01").drops("pap 1 1 " + saysAlice).drops("chap 3 0")
	r.is(phase.Network)
	r = of(t, requiring(api.MEap), aliceAndMill()...).opened(byEap, "", "eap 1 1 01")
	r.drops("eap 1 1 01").drops("eap 3 1").drops("eap 4 1").drops("pap 1 1 " + saysAlice).drops("chap 2 1")
}

// EAP: the other end's

// eapSays answers the Response by which a name proves itself to a request that a link has sent.
func (r *rig) eapSays(asked, name string, l []api.Secret) string {
	r.Helper()
	p, e, _ := eap.NewPeer(name, l)
	if e != api.OK {
		r.Fatal(e)
	}
	f := r.raw(asked)
	q, _, e := p.Take(api.Packet{Code: 1, Id: int(f.Info[1]), Data: f.Info[4:]})
	if e != api.OK {
		r.Fatal(e)
	}
	return r.text("eap", q)
}

// eapAsks answers mill's request for the proof, with the challenge that the draws from the n-th on make.
func eapAsks(id, n int) string {
	return "eap 1 " + strconv.Itoa(id) + " 0410" + challenge(n) + messageOf("mill")
}

func TestTheOtherEndProvesItByEap(t *testing.T) {
	l := aliceAndMill()
	r := of(t, requiring(api.MEap), l...).opened(byEap, "", "eap 1 1 01").is(phase.Authenticate).due(3000)
	r.at(3000, "eap 1 1 01").due(6000).drops("eap 2 2 01").drops("eap : 020100")
	r.at(4000).comes("eap 2 1 01"+messageOf("alice"), eapAsks(2, 5)).due(7000) // two draws for the one that was dropped
	r.at(7000, eapAsks(2, 5)).due(10000)
	r.comes(r.eapSays(eapAsks(2, 5), "alice", l), "eap 3 2", ipRequest).is(phase.Network)
	if r.l.Who() != "alice" {
		t.Error(r.l.Who())
	}
	r.drops(r.eapSays(eapAsks(2, 5), "alice", l)).comes("ipcp 2 1 "+ipOption).comes(ipTheirs, "ipcp 2 1 03060a000002").due(-1)
}

func TestTheOtherEndFailsByEap(t *testing.T) {
	l := aliceAndMill()
	r := of(t, requiring(api.MEap), l...).opened(byEap, "", "eap 1 1 01")
	r.comes("eap 2 1 01"+messageOf("bob"), "eap 4 1", "lcp 5 2").is(phase.Terminate, api.SClosing)
	r = of(t, requiring(api.MEap), l...).opened(byEap, "", "eap 1 1 01").comes("eap 2 1 01"+messageOf("alice"), eapAsks(2, 3))
	wrong := []api.Secret{{Client: "*", Server: "*", Word: "z"}}
	r.comes(r.eapSays(eapAsks(2, 3), "alice", wrong), "eap 4 2", "lcp 5 2").is(phase.Terminate, api.SClosing)
}

func TestTheOtherEndSaysNothingByEap(t *testing.T) {
	c := requiring(api.MEap, func(c *api.Conf) { c.MaxConfigure = 2 })
	of(t, c, aliceAndMill()...).opened(byEap, "", "eap 1 1 01").at(3000, "eap 1 1 01").at(6000, "lcp 5 2").is(phase.Terminate)
	r := of(t, c, aliceAndMill()...).opened(byEap, "", "eap 1 1 01").at(3000, "eap 1 1 01").at(4000)
	r.comes("eap 2 1 01"+messageOf("alice"), eapAsks(2, 3)).at(7000, eapAsks(2, 3)).at(10000, "lcp 5 2").is(phase.Terminate)
}

func TestAProofIsAskedAnewByEap(t *testing.T) {
	l := aliceAndMill()
	r := of(t, requiring(api.MEap, func(c *api.Conf) { c.Rechallenge, c.MaxConfigure = 10000, 2 }), l...).opened(byEap, "", "eap 1 1 01")
	r.comes("eap 2 1 01"+messageOf("alice"), eapAsks(2, 3)).comes(r.eapSays(eapAsks(2, 3), "alice", l), "eap 3 2", ipRequest)
	r.comes("ipcp 2 1 "+ipOption).comes(ipTheirs, "ipcp 2 1 03060a000002").due(10000) // behind draws for the two Responses
	r.at(10000, eapAsks(3, 7)).due(13000)
	if r.l.Who() != "alice" {
		t.Error(r.l.Who())
	}
	r.comes(r.eapSays(eapAsks(3, 7), "alice", l), "eap 3 3").due(20000).is(phase.Network)
	r.at(20000, eapAsks(4, 11)).at(23000, eapAsks(4, 11)).at(26000, "lcp 5 2").is(phase.Terminate)
}

// EAP: this end's

func TestThisEndProvesItByEap(t *testing.T) {
	l := aliceAndMill()
	r := of(t, requiring(0), l...).opened("", byEap).is(phase.Authenticate).due(3000).at(1000)
	r.drops("eap 3 1").drops("eap 2 1 01").drops("eap 1 1").drops("eap 5 1")
	r.comes("eap 1 5 01", "eap 2 5 01"+messageOf("mill")).comes("eap 1 6 02"+messageOf("hello"), "eap 2 6 02").comes("eap 1 7 0d00", "eap 2 7 0304").due(3000)
	asks := "eap 1 8 0403616263" + messageOf("alice")
	r.comes(asks, r.eapSays(asks, "mill", l)).comes("eap 3 8", ipRequest).is(phase.Network)
	r.comes("ipcp 2 1 "+ipOption).comes(ipTheirs, "ipcp 2 1 03060a000002").due(-1)
	again := "eap 1 9 0403646566" + messageOf("alice")
	r.comes(again, r.eapSays(again, "mill", l)).due(-1).comes("eap 3 9").due(-1).is(phase.Network)
}

func TestThisEndFailsByEap(t *testing.T) {
	of(t, requiring(0), aliceAndMill()...).opened("", byEap).comes("eap 4 1", "lcp 5 2").is(phase.Terminate, api.SClosing)
	r := of(t, requiring(0), aliceAndMill()[0]).opened("", byEap)
	r.comes("eap 1 8 0403616263"+messageOf("alice"), "eap 2 8 0300").comes("eap 4 8", "lcp 5 2") // it has no word
}

// Both

func TestBothProveIt(t *testing.T) {
	l := aliceAndMill()
	for _, mineFirst := range []bool{false, true} {
		r := of(t, requiring(api.MChap), l...).opened(byChap, byPap, chapAsks(1, 3), "pap 1 1 046d696c6c0179").is(phase.Authenticate).due(3000)
		says := r.chapSays(chapAsks(1, 3), "alice", l)
		success := "chap 3 1 " + messageOf("welcome")
		if mineFirst {
			r.comes("pap 2 1 00").is(phase.Authenticate).at(3000, chapAsks(1, 3)).comes(says, success, ipRequest)
		} else {
			r.comes(says, success).is(phase.Authenticate).comes(says, success).is(phase.Authenticate, api.SOpened, api.SInitial)
			r.at(3000, "pap 1 2 046d696c6c0179").comes("pap 2 2 00", ipRequest)
		}
		r.is(phase.Network, api.SOpened, api.SReqSent)
	}
}

func TestBothAreDueInOneOrder(t *testing.T) {
	r := of(t, requiring(api.MEap, func(c *api.Conf) { c.EchoEvery = 3000 }), aliceAndMill()...).opened(byEap, byPap, "eap 1 1 01", "pap 1 1 046d696c6c0179")
	r.at(3000, "eap 1 1 01", "pap 1 2 046d696c6c0179", "lcp 9 2 00000000").due(6000)
}

func TestAProofThatEndsTheLinkTakesTheOtherOneAway(t *testing.T) {
	c := requiring(api.MPap, func(c *api.Conf) { c.MaxConfigure, c.EchoEvery = 1, 3000 })
	r := of(t, c, aliceAndMill()...).opened(byPap, byPap, "pap 1 1 046d696c6c0179")
	r.at(3000, "lcp 5 2").is(phase.Terminate).due(6000) // neither this end's, nor an echo
}

func TestARechallengeIsDueFromTheLastProofOn(t *testing.T) {
	l := aliceAndMill()
	r := of(t, requiring(api.MChap, func(c *api.Conf) { c.Rechallenge = 10000 }), l...).opened(byChap, byPap, chapAsks(1, 3), "pap 1 1 046d696c6c0179")
	r.at(100).comes(r.chapSays(chapAsks(1, 3), "alice", l), "chap 3 1 "+messageOf("welcome")).at(700).comes("pap 2 1 00", ipRequest)
	r.comes("ipcp 2 1 "+ipOption).comes(ipTheirs, "ipcp 2 1 03060a000002").due(10700).at(10700, chapAsks(2, 5))
}

func TestMethodsThatThisEndMayUse(t *testing.T) {
	c := requiring(0, func(c *api.Conf) { c.Accept = []int{api.MEap} })
	r := of(t, c, aliceAndMill()...).open("lcp 1 1").comes("lcp 2 1")
	r.comes("lcp 1 1 "+byChap, "lcp 3 1 "+byEap).comes("lcp 1 2 "+byEap, "lcp 2 2 "+byEap).is(phase.Authenticate)
}
