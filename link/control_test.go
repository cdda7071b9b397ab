package link

import (
	"encoding/hex"
	"strconv"
	"strings"
	"testing"

	"tether/api"
	"tether/phase"
)

// Identifiers

func TestIdentifiersGoOnAndRound(t *testing.T) {
	r := of(t, changed(func(c *api.Conf) { c.MaxConfigure, c.MaxTerminate = 255, 255 })).open("lcp 1 1")
	for i := int64(2); i <= 255; i++ {
		r.at(3000*i, "lcp 1 "+strconv.FormatInt(i, 10))
	}
	r.lost().open("lcp 1 0") // they go on on another line
	r.close("lcp 5 1").at(r.now+3000, "lcp 5 2")
}

func TestEachProtocolHasItsOwnIdentifiers(t *testing.T) {
	r := of(t, plain()).open("lcp 1 1").at(3000, "lcp 1 2")
	r.comes("lcp 2 2").comes("lcp 1 9", "lcp 2 9", ipRequest)
	r.comes("ipcp 99 7", "ipcp 7 2 63070004").comes("lcp 99 7", "lcp 7 3 63070004")
}

// What is no packet, and what does not pass

func TestWhatIsNoPacketIsDropped(t *testing.T) {
	r := up(t).drops("lcp :").drops("lcp : 630900").drops("lcp : 63090003").drops("lcp : 63090005").drops("lcp : 6309ffff")
	r.drops("ipcp :").drops("ipcp : 63090005").is(phase.Network, api.SOpened, api.SOpened)
	r.comes("lcp : 0909000800000000aabb", "lcp 10 9 00000000") // what stands behind it is padding
}

func TestWhatDoesNotPassDrawsNothing(t *testing.T) {
	r := of(t, changed(func(c *api.Conf) { c.Ipv6 = true })).open("lcp 1 1")
	r.drops("ipv6cp 1 1 010a0000000000000007").comes("lcp 2 1")
	r.comes("lcp 1 1", "lcp 2 1", ipRequest, "ipv6cp 1 1 010a"+digits(drawn(1, 3)[2], 8))
}

// Configure-Requests

func TestARequestIsJudged(t *testing.T) {
	r := of(t, plain()).open("lcp 1 1")
	r.comes("lcp 1 5 0104000a", "lcp 3 5 01040040") // an Mru that is too small
	r.comes("lcp 1 6 0402", "lcp 4 6 0402")
	r.comes("lcp 1 7 01040578", "lcp 2 7 01040578").is(phase.Establish, api.SAckSent)
	if r.l.lcp.theirs.Mru != 1400 {
		t.Error(r.l.lcp.theirs)
	}
}

func TestARequestWhoseOptionsCanNotBeReadIsDropped(t *testing.T) {
	r := of(t, changed(func(c *api.Conf) { c.Magic = true }))
	r.open("lcp 1 1 0506" + digits(drawn(1, 1)[0]>>32, 4))
	r.drops("lcp 1 5 01").drops("lcp 1 5 0101").drops("lcp 1 5 010405").drops("lcp 1 5 " + strings.Repeat("0702", 33))
	r.comes("lcp 1 6 050600000000", "lcp 3 6 0506"+digits(drawn(1, 2)[1]>>32, 4)) // and has drawn nothing
}

func TestNaksAreCounted(t *testing.T) {
	r := of(t, changed(func(c *api.Conf) { c.MaxFailure = 2 })).open("lcp 1 1")
	small, nak := " 01040005", " 01040040"
	r.comes("lcp 1 1"+small, "lcp 3 1"+nak).comes("lcp 1 2"+small, "lcp 3 2"+nak)
	r.comes("lcp 1 3"+small, "lcp 4 3"+small) // a Reject, behind which they are counted anew
	r.comes("lcp 1 4"+small, "lcp 3 4"+nak).comes("lcp 1 5", "lcp 2 5")
	r.comes("lcp 1 6"+small, "lcp 3 6"+nak).comes("lcp 1 7"+small, "lcp 3 7"+nak).comes("lcp 1 8 0402", "lcp 4 8 0402")
	r.comes("lcp 1 9"+small, "lcp 3 9"+nak).comes("lcp 1 10"+small, "lcp 3 10"+nak).comes("lcp 1 11"+small, "lcp 4 11"+small)
}

func TestWhatGoesNotOutIsNotCounted(t *testing.T) {
	r := up(t, func(c *api.Conf) { c.MaxFailure = 1 })
	r.close("lcp 5 2").is(phase.Terminate, api.SClosing)
	for range 3 {
		r.comes("lcp 1 2 01040005") // it is judged, and not answered
	}
	if r.l.lcp.naks != 0 || r.l.lcp.theirs.Mru != 1500 {
		t.Error(r.l.lcp.naks, r.l.lcp.theirs)
	}
	r.comes("lcp 1 2 01040400")
	if r.l.lcp.theirs.Mru != 1500 {
		t.Error(r.l.lcp.theirs)
	}
}

func TestDrawsOfARequestAreMadeInAnyCase(t *testing.T) {
	r := of(t, changed(func(c *api.Conf) { c.Magic = true }))
	magic := func(n int) string { return "0506" + digits(drawn(1, n)[n-1]>>32, 4) }
	r.open("lcp 1 1 " + magic(1))
	r.comes("lcp 1 2", "lcp 2 2").comes("lcp 1 3 0402", "lcp 4 3 0402")
	r.comes("lcp 1 4 "+magic(1), "lcp 3 4 "+magic(4))
	r.comes("lcp 3 1 "+magic(1), "lcp 1 2 "+magic(5)) // a Nak lets it draw, too
	r.comes("lcp 4 2 "+magic(5), "lcp 1 3")           // a Reject does not
	r.close("lcp 5 4").comes("lcp 1 9")
	r.lost().open("lcp 1 5 " + magic(7))
}

func TestAnEndWithoutMagicDrawsAsWell(t *testing.T) {
	r := of(t, changed(func(c *api.Conf) { c.Ipv6 = true }))
	r.open("lcp 1 1").comes("lcp 2 1")
	r.comes("lcp 1 1", "lcp 2 1", ipRequest, "ipv6cp 1 1 010a"+digits(drawn(1, 3)[2], 8)) // made ready, judged, made ready
}

// Configure-Acks

func TestAnAckOfSomethingElseIsDropped(t *testing.T) {
	r := of(t, changed(func(c *api.Conf) { c.Mru, c.Pfc = 1400, true })).open("lcp 1 1 010405780702")
	r.drops("lcp 2 0 010405780702").drops("lcp 2 2 010405780702")
	for _, options := range []string{"", "01040578", "0702", "07020104057", "070201040578", "010405790702", "0104057807020702", "0104057807", "010405780703"} {
		if len(options)%2 == 1 {
			options += "8"
		}
		r.drops("lcp 2 1 " + options)
	}
	r.is(phase.Establish, api.SReqSent)
	r.comes("lcp 2 1 010405780702").is(phase.Establish, api.SAckRcvd)
}

func TestOnlyTheLastRequestIsAcknowledged(t *testing.T) {
	of(t, plain()).open("lcp 1 1").at(3000, "lcp 1 2").drops("lcp 2 1").comes("lcp 2 2").is(phase.Establish, api.SAckRcvd)
}

func TestAnAckThatComesTwice(t *testing.T) {
	r := of(t, plain()).open("lcp 1 1").comes("lcp 2 1").comes("lcp 2 1", "lcp 1 2").is(phase.Establish, api.SReqSent)
	r = up(t).comes("lcp 2 1", "lcp 1 2").is(phase.Establish, api.SReqSent, api.SStarting) // as it is in the table
	r.comes("lcp 2 2").comes("lcp 1 2", "lcp 2 2", "ipcp 1 2 03060a000001").is(phase.Network, api.SOpened, api.SReqSent)
}

// Configure-Naks, -Rejects

func TestANakLetsItAskSomethingElse(t *testing.T) {
	r := of(t, changed(func(c *api.Conf) { c.Mru, c.Pfc = 1400, true })).open("lcp 1 1 010405780702")
	r.comes("lcp 3 1 01040400", "lcp 1 2 010404000702")
	r.drops("lcp 3 1 01040300").drops("lcp 2 1 010405780702")
	r.comes("lcp 4 2 0702", "lcp 1 3 01040400")
	r.comes("lcp 4 3 01040400", "lcp 1 4").is(phase.Establish, api.SReqSent)
}

func TestNaksAndRejectsThatDoNotFitAreDropped(t *testing.T) {
	r := of(t, changed(func(c *api.Conf) { c.Mru, c.Pfc = 1400, true })).open("lcp 1 1 010405780702")
	for _, code := range []string{"lcp 3 ", "lcp 4 "} {
		r.drops(code + "2 0702").drops(code + "0 0702") // another request's
		r.drops(code + "1").drops(code + "1 07").drops(code + "1 0701").drops(code + "1 070201040578")
	}
	r.drops("lcp 4 1 01040579").drops("lcp 4 1 0802")
	r.comes("lcp 3 1 01040579", "lcp 1 2 010405780702") // a Nak may say what can not be
	r.comes("lcp 3 2 0802", "lcp 1 3 010405780702")
}

func TestRefusalsWhereThereIsNoRequestAreDropped(t *testing.T) {
	r := of(t, plain()).opened("", "", ipRequest).lost().open("lcp 1 2")
	for _, code := range []string{"2", "3", "4"} {
		r.drops("lcp " + code + " 1 0702").drops("lcp " + code + " 0 0702").drops("lcp " + code + " 1")
	}
}

func TestARejectOfWhatMustBe(t *testing.T) {
	r := of(t, changed(func(c *api.Conf) { c.Require = api.MChap })).open("lcp 1 1 0305c22305")
	r.comes("lcp 4 1 0305c22305", "lcp 5 2").is(phase.Establish, api.SClosing)
	r.comes("lcp 6 2").is(phase.Dead, api.SClosed)
	r = of(t, plain()).opened("", "", ipRequest)
	r.comes("ipcp 4 1 "+ipOption, "ipcp 5 2").is(phase.Network, api.SOpened, api.SClosing)
}

func TestARefusalOfAnOpenedLink(t *testing.T) {
	r := of(t, changed(func(c *api.Conf) { c.Mru = 1400 })).opened("01040578", "", ipRequest)
	r.comes("lcp 3 1 01040300", "lcp 1 2 01040300").is(phase.Establish, api.SReqSent, api.SStarting)
	r = up(t).comes("ipcp 3 1 03060a000009", "ipcp 1 2 03060a000001").is(phase.Network, api.SOpened, api.SReqSent)
}

// Terminate-Requests, -Acks

func TestTerminate(t *testing.T) {
	r := up(t).comes("lcp 5 77 0102", "lcp 6 77").is(phase.Establish, api.SStopping, api.SStarting).due(3000)
	r.comes("lcp 5 78", "lcp 6 78").at(2999).at(3000).is(phase.Dead, api.SStopped).due(-1)
	r = of(t, plain()).open("lcp 1 1").comes("lcp 5 3", "lcp 6 3").is(phase.Establish, api.SReqSent)
	r.comes("lcp 6 99").is(phase.Establish, api.SReqSent)
	r = up(t).comes("lcp 6 99", "lcp 1 2").is(phase.Establish, api.SReqSent)
	r = up(t).comes("ipcp 5 3", "ipcp 6 3").is(phase.Network, api.SOpened, api.SStopping)
	r.at(3000).is(phase.Network, api.SOpened, api.SStopped).due(-1)
	r.comes("ipcp 6 3").comes("ipcp 5 4", "ipcp 6 4").comes("ipcp 2 1 "+ipOption, "ipcp 6 1") // of a protocol that has stopped
	r.comes("ipcp 1 8 03060a000002", "ipcp 1 2 03060a000001", "ipcp 2 8 03060a000002").is(phase.Network, api.SOpened, api.SAckSent)
}

// Timers

func TestRequestsAreSentAnew(t *testing.T) {
	r := of(t, changed(func(c *api.Conf) { c.MaxConfigure, c.Restart = 3, 500 })).at(100).open("lcp 1 1").due(600)
	r.at(599).at(600, "lcp 1 2").due(1100).at(1250, "lcp 1 3").due(1750)
	r.comes("lcp 1 1", "lcp 2 1").due(1750)
	r.at(1750).is(phase.Dead, api.SStopped).due(-1)
}

func TestTerminateRequestsAreSentAnew(t *testing.T) {
	r := of(t, changed(func(c *api.Conf) { c.MaxTerminate, c.Restart = 2, 500 })).open("lcp 1 1")
	r.at(100).close("lcp 5 2").due(600).at(600, "lcp 5 3").due(1100).at(1100).is(phase.Dead, api.SClosed).due(-1)
}

func TestTheTimersAreDueInOneOrder(t *testing.T) {
	r := of(t, changed(func(c *api.Conf) { c.Ipv6, c.LocalId, c.Bsd = true, 5, 9 }))
	ip6, comp := "ipv6cp 1 1 010a0000000000000005", "ccp 1 1 150329"
	r.opened("", "", ipRequest, ip6, comp).due(3000)
	r.at(7000, "ipcp 1 2 03060a000001", "ipv6cp 1 2 010a0000000000000005", "ccp 1 2 150329").due(10000)
	r.now = 8000
	r.comes("ipcp 3 2 03060a000009", "ipcp 1 3 03060a000001").due(10000)
	r.at(10000, "ipv6cp 1 3 010a0000000000000005", "ccp 1 3 150329").due(11000)
}

func TestATimerOfAnAutomatonThatDoesNotRunIsNotAsked(t *testing.T) {
	r := of(t, plain()).open("lcp 1 1").comes("lcp 2 1").comes("lcp 1 1", "lcp 2 1", ipRequest)
	r.at(1000).comes("ipcp 2 1 "+ipOption).comes(ipTheirs, "ipcp 2 1 03060a000002").due(-1).at(10000)
	r.comes("lcp 2 1", "lcp 1 2").due(13000)
}

// Code-Rejects

func TestACodeRejectThatCanNotBeBorne(t *testing.T) {
	for code := range 256 {
		r := of(t, plain()).open("lcp 1 1")
		r.comes("lcp 7 9 " + digits(uint64(code), 1) + "0102")
		if code >= 1 && code <= 6 {
			r.is(phase.Dead, api.SStopped)
		} else {
			r.is(phase.Establish, api.SReqSent)
		}
	}
	of(t, plain()).open("lcp 1 1").drops("lcp 7 9").is(phase.Establish, api.SReqSent)
	up(t).comes("lcp 7 9 02", "lcp 5 2").is(phase.Establish, api.SStopping, api.SStarting)
	up(t).comes("lcp 7 9 09").is(phase.Network, api.SOpened, api.SOpened)
	up(t).comes("ipcp 7 9 01", "ipcp 5 2").is(phase.Network, api.SOpened, api.SStopping)
	up(t).comes("ipcp 7 9 0e").is(phase.Network, api.SOpened, api.SOpened)
}

func TestCodesThatAreNotKnown(t *testing.T) {
	r := of(t, changed(func(c *api.Conf) { c.Deflate = 8 })).opened("", "", ipRequest, "ccp 1 1 1a040800")
	for i, code := range []int{0, 13, 14, 15, 16, 255} {
		packet := digits(uint64(code), 1) + "2100060102"
		r.comes("lcp "+strconv.Itoa(code)+" 33 0102", "lcp 7 "+strconv.Itoa(i+2)+" "+packet)
		r.comes("ipcp "+strconv.Itoa(code)+" 33 0102", "ipcp 7 "+strconv.Itoa(i+2)+" "+packet)
	}
	n := 2
	for _, code := range []int{0, 8, 9, 10, 11, 12, 13, 16, 255} { // what LCP alone has is not known to others
		r.comes("ccp "+strconv.Itoa(code)+" 33 0102", "ccp 7 "+strconv.Itoa(n)+" "+digits(uint64(code), 1)+"2100060102")
		n++
	}
	for i, code := range []int{8, 9, 10, 11, 12} {
		r.comes("ipcp "+strconv.Itoa(code)+" 33 0102", "ipcp 7 "+strconv.Itoa(i+8)+" "+digits(uint64(code), 1)+"2100060102")
	}
}

func TestACodeRejectHasThePacketAlone(t *testing.T) {
	r := of(t, plain()).open("lcp 1 1")
	r.comes("lcp : 6305000501aabbcc", "lcp 7 2 6305000501") // without its padding
}

func TestRejectionsAreCut(t *testing.T) {
	long := strings.Repeat("ab", 2000)
	packet := "630907d4" + long
	of(t, plain()).open("lcp 1 1").comes("lcp 99 9 "+long, "lcp 7 2 "+packet[:2*1496])
	r := of(t, plain()).opened("", "01040040", ipRequest)
	r.comes("lcp 99 9 "+long, "lcp 7 2 "+packet[:2*60]).comes("ipcp 99 9 "+long, "ipcp 7 2 "+packet[:2*60])
	r.drops("8029 "+long, "lcp 8 3 8029"+long[:2*58])
	r.comes("lcp 99 9 "+packet[8:2*60], "lcp 7 4 6309003c"+packet[8:2*60]) // as long as may be
	r.drops("8029 "+long[:2*58], "lcp 8 5 8029"+long[:2*58])
	r.drops("8029 "+long[:2*57], "lcp 8 6 8029"+long[:2*57])
	whole := strings.Repeat("cd", api.MaxMru-4)
	r = of(t, plain()).opened("", "01044000", ipRequest)
	r.comes("lcp 99 9 "+whole, "lcp 7 2 63094000"+whole[:2*(api.MaxMru-8)])
	r.drops("2b "+whole+"cdcdcdcd", "lcp 8 3 002b"+whole[:2*(api.MaxMru-6)])
}

// Protocol-Rejects

func TestAProtocolReject(t *testing.T) {
	r := up(t).drops("lcp 8 5").drops("lcp 8 5 80")
	r.comes("lcp 8 5 80fd").comes("lcp 8 5 8057").comes("lcp 8 5 0021").comes("lcp 8 5 c0230101")
	r.is(phase.Network, api.SOpened, api.SOpened)
	r.comes("lcp 8 5 80210102", "ipcp 5 2").is(phase.Network, api.SOpened, api.SStopping)
	r.comes("lcp 8 5 8021").is(phase.Network, api.SOpened, api.SStopped).comes("lcp 8 5 8021").is(phase.Network, api.SOpened, api.SStopped)
	r.comes("lcp 8 5 c021", "lcp 5 2").is(phase.Establish, api.SStopping, api.SStarting)
	r.drops("lcp 8 5 8021").drops("lcp 8 5 c021")
	of(t, plain()).open("lcp 1 1").drops("lcp 8 5 8021").comes("lcp 2 1").drops("lcp 8 5 c021").is(phase.Establish, api.SAckRcvd)
}

func TestAProtocolThatIsRejectedAsItIsAsked(t *testing.T) {
	r := of(t, changed(func(c *api.Conf) { c.Deflate = 8 })).opened("", "", ipRequest, "ccp 1 1 1a040800").ipUp()
	r.comes("lcp 8 9 80fd0101").is(phase.Network, api.SOpened, api.SOpened, api.SInitial, api.SStopped).due(-1)
}

func TestAProtocolRejectOfOneThatHasNotBegunCountsNot(t *testing.T) {
	r := of(t, changed(func(c *api.Conf) { c.Require = api.MPap })).opened("0304c023", "")
	r.is(phase.Authenticate, api.SOpened, api.SInitial).comes("lcp 8 9 8021").is(phase.Authenticate, api.SOpened, api.SInitial)
}

func TestFramesOfProtocolsThatAreNotHere(t *testing.T) {
	r := of(t, plain()).open("lcp 1 1").drops("8029 01").comes("lcp 2 1").drops("8029 01")
	r.comes("lcp 1 1", "lcp 2 1", ipRequest)
	for i, k := range []struct{ text, told string }{
		{"8029 0102", "80290102"}, {"2b", "002b"}, {"ipv6 60", "005760"}, {"ipv6cp 1 1", "805701010004"}, {"ccp 1 1", "80fd01010004"}, {"comp 00", "00fd00"}, {"c025 01", "c02501"},
	} {
		r.drops(k.text, "lcp 8 "+strconv.Itoa(i+2)+" "+k.told)
	}
	r.close("lcp 5 9").drops("8029 01")
	r = of(t, changed(func(c *api.Conf) { c.Require = api.MPap })).opened("0304c023", "")
	r.is(phase.Authenticate).drops("8029 01", "lcp 8 2 802901")
}

// Echoes

func TestAnEchoRequestIsAnswered(t *testing.T) {
	r := of(t, changed(func(c *api.Conf) { c.Magic = true }))
	magic := digits(drawn(1, 1)[0]>>32, 4)
	r.open("lcp 1 1 0506" + magic).comes("lcp 9 7 00000000aabb") // taken, not answered
	r.comes("lcp 2 1 0506"+magic).comes("lcp 1 1", "lcp 2 1", ipRequest)
	r.comes("lcp 9 7 00000000aabb", "lcp 10 7 "+magic+"aabb").comes("lcp 9 255 01020304", "lcp 10 255 "+magic)
	r.drops("lcp 9 7").drops("lcp 9 7 000000").drops("lcp 9 7 " + magic + "aabb") // the line is looped
	for _, code := range []string{"10", "11", "12"} {
		r.comes("lcp " + code + " 7 00000000aabb").drops("lcp " + code + " 7 " + magic).drops("lcp " + code + " 7 0000")
	}
}

func TestAnEchoWithoutMagic(t *testing.T) {
	up(t).comes("lcp 9 7 00000000", "lcp 10 7 00000000").comes("lcp 9 7 05060708aa", "lcp 10 7 00000000aa")
}

func TestEchoesAreAskedFor(t *testing.T) {
	r := of(t, changed(func(c *api.Conf) { c.Magic, c.EchoEvery, c.EchoFail, c.Restart = true, 5000, 3, 700 }))
	magic := digits(drawn(1, 1)[0]>>32, 4)
	r.at(100).opened("0506"+magic, "", ipRequest).ipUp().due(5100)
	r.at(5099).at(5100, "lcp 9 2 "+magic).due(10100).at(10100, "lcp 9 3 "+magic)
	r.comes("lcp 10 77 00000000") // of whatever identifier
	r.at(15100, "lcp 9 4 "+magic).at(20100, "lcp 9 5 "+magic).at(25100, "lcp 9 6 "+magic)
	r.is(phase.Network).at(30100, "lcp 5 7").is(phase.Establish, api.SClosing, api.SStarting).due(30800)
	r.at(30800, "lcp 5 8").at(31500).is(phase.Dead, api.SClosed).due(-1)
}

func TestOnlyAnEchoReplyOfAnotherEndIsOne(t *testing.T) {
	for _, k := range []struct {
		text    string
		dropped bool
	}{{"lcp 9 2 00000000", false}, {"lcp 11 2 00000000", false}, {"lcp 12 2 00000000", false}, {"lcp 10 2 MAGIC", true}, {"lcp 10 2 0000", true}, {"lcp 10 2 00000000", false}} {
		r := of(t, changed(func(c *api.Conf) { c.Magic, c.EchoEvery, c.EchoFail = true, 5000, 1 }))
		magic := digits(drawn(1, 1)[0]>>32, 4)
		r.opened("0506"+magic, "", ipRequest).ipUp().at(5000, "lcp 9 2 "+magic)
		text := strings.ReplaceAll(k.text, "MAGIC", magic)
		out, e := r.l.Feed(r.now, r.line(text))
		if e != api.OK || (r.l.Dropped() == 1) != k.dropped {
			t.Error(k, r.shows(out), e)
		}
		if strings.HasPrefix(k.text, "lcp 10 2 00000000") {
			r.at(10000, "lcp 9 3 "+magic)
		} else {
			r.at(10000, "lcp 5 3")
		}
	}
}

func TestEchoesBeginAnewWithTheLink(t *testing.T) {
	r := up(t, func(c *api.Conf) { c.EchoEvery, c.EchoFail = 5000, 1 }).at(5000, "lcp 9 2 00000000").due(10000)
	r.at(6000).comes("lcp 1 2", "lcp 1 3", "lcp 2 2").is(phase.Establish, api.SAckSent).due(9000) // no echo is due
	r.comes("lcp 2 3", "ipcp 1 2 03060a000001").is(phase.Network).comes("ipcp 2 2 " + ipOption).due(9000)
	r.comes(ipTheirs, "ipcp 2 1 03060a000002").due(11000).at(11000, "lcp 9 4 00000000").at(16000, "lcp 5 5")
}

func TestNoEchoesWhereNoneAreWanted(t *testing.T) {
	up(t).due(-1).at(api.MaxTime).is(phase.Network)
}

// How frames go out

func TestFramesGoOutAsTheOtherEndWants(t *testing.T) {
	raw := func(l []api.Out, e api.Errno) []string {
		var out []string
		for _, o := range l {
			out = append(out, hex.EncodeToString(o.B))
		}
		if e != api.OK {
			t.Fatal(e)
		}
		return out
	}
	r := of(t, changed(func(c *api.Conf) { c.Pfc, c.Acfc = true, true })).open("lcp 1 1 07020802")
	theirs := "02060000000207020802" // a map of one byte, short numbers and no addresses
	got := raw(r.l.Feed(0, r.line("lcp 2 1 07020802", "lcp 1 1 "+theirs)))
	if len(got) != 2 || !strings.HasPrefix(got[0], "7eff7d23c0217d227d21") || !strings.HasPrefix(got[1], "7e80217d217d21000a0306") {
		t.Fatal(got)
	}
	r.ipUp()
	if got := raw(r.l.Send(0, []byte{0x45, 0, 1, 2})); len(got) != 1 || !strings.HasPrefix(got[0], "7e2145007d2102") {
		t.Error(got)
	}
	got = raw(r.l.Feed(0, r.line("lcp 9 7 00000000"))) // frames of LCP are always whole
	if len(got) != 1 || !strings.HasPrefix(got[0], "7eff7d23c0217d2a7d277d207d287d207d207d207d20") {
		t.Error(got)
	}
	r.comes("lcp 1 2", "lcp 1 2 07020802", "lcp 2 2").is(phase.Establish) // and it wants nothing of the kind any more
	r.comes("lcp 2 2 07020802", "ipcp 1 2 03060a000001")
	out, e := r.l.Feed(0, r.line("ipcp 9 3"))
	if got := raw(out, e); len(got) != 1 || !strings.HasPrefix(got[0], "7eff7d2380217d277d23") {
		t.Error(got)
	}
}
