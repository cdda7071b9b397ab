package daemon

import (
	"math"
	"strings"
	"testing"

	"tether/api"
	"tether/phase"
	"tether/policy"
)

// dialler is a script that asks for a call.
const dialler = `connect "ABORT BUSY '' ATZ OK ATD CONNECT"` + "\n"

// P29.2

func TestEventsThatAreNone(t *testing.T) {
	r := linked(t, "")
	for _, kind := range []int{math.MinInt, -1, 0, api.VControl, 7, math.MaxInt} {
		r.refuses(api.Event{Kind: kind, B: of4(tcp, 1), N: 1, Text: "down"}, api.ErrEvent)
	}
	r.is(policy.Runs, phase.Network).keeps(0, 0, 0)
}

// VTick

func TestTimesThatAreNone(t *testing.T) {
	r := linked(t, "idle 10").at(500)
	for _, now := range []int64{math.MinInt64, -1, 0, 499, api.MaxTime + 1, math.MaxInt64} {
		r.refuses(api.Event{Kind: api.VTick, N: now}, api.ErrArg)
	}
	if r.d.Now() != 500 {
		t.Error(r.d.Now())
	}
	r.at(500).at(api.MaxTime, "lcp 5 2").is(policy.Ends, phase.Terminate)
	r.refuses(api.Event{Kind: api.VTick, N: api.MaxTime + 1}, api.ErrArg).at(api.MaxTime)
}

func TestATickWithoutALink(t *testing.T) {
	of(t, plain+"demand\n").start().at(100).at(api.MaxTime).is(policy.Rest, phase.Dead)
	of(t, plain).start("dial").at(100).at(api.MaxTime).is(policy.Dials, phase.Dead) // it waits for the carrier without end
}

func TestATickOfAScript(t *testing.T) {
	r := of(t, plain+`connect "'' AT OK-AT2-OK ''"`+"\nholdoff 45\nmaxfail 0\n").start("dial", `says "AT\r"`)
	r.at(44999).at(45000, `says "AT2\r"`).dialling(true).due(90000)
	r.at(90000, "hang").dialling(false).is(policy.Holds, phase.Dead).why("failed", 1)
	r.at(134999).is(policy.Holds, phase.Dead).at(135000, "dial", `says "AT\r"`).is(policy.Dials, phase.Dead)
}

func TestATickOfALink(t *testing.T) {
	r := of(t, plain+"lcp-restart 5\nmax-configure 2\nholdoff 1\n").start("dial").carrier(1, ask)
	r.at(4999).at(5000, "lcp 1 2").at(9999).at(10000, "hang").is(policy.Holds, phase.Dead).why("failed", 1)
	r.at(11000, "dial", "lcp 1 3").is(policy.Dials, phase.Establish)
}

func TestATickIsThePolicysAndTheLinks(t *testing.T) {
	r := linked(t, "maxconnect 30\necho-interval 30\n")
	r.at(30000, "lcp 9 2 00000000", "lcp 5 3").is(policy.Ends, phase.Terminate).why("session", 0)
}

// VSerial

func TestBytesOfTheLineAreTheScriptsFirst(t *testing.T) {
	r := of(t, plain+dialler).start("dial", `says "ATZ\r"`).carrier(1)
	r.comes(ask).hears("O").hears("K", `says "ATD\r"`).hears("").comes(ask).is(policy.Dials, phase.Dead)
	r.hears("CONNECT", ask).dialling(false).is(policy.Dials, phase.Establish).comes(ask, "lcp 2 1").keeps(0, 0, 0)
}

func TestWhatTheScriptLeavesIsTheLinks(t *testing.T) {
	r := of(t, plain+dialler).start("dial", `says "ATZ\r"`)
	r.hears("OKCONNECT"+string(r.frame(ask))+string(r.frame("lcp 2 1")), `says "ATD\r"`, ask, "lcp 2 1", ipAsk)
	r.is(policy.Dials, phase.Network).comes(ipTheirs, ipGranted).comes(ipTaken).is(policy.Runs, phase.Network)
	whole := strings.Trim(string(r.frame(ask)), "\x7e") // without a flag ahead each byte counts
	r = of(t, plain+dialler).start("dial", `says "ATZ\r"`)
	r.hears("OKCONNECT"+whole[:1], `says "ATD\r"`, ask).hears(whole[1:]+"\x7e", "lcp 2 1").keeps(0, 0, 0)
}

func TestAScriptWithoutACarrier(t *testing.T) {
	of(t, plain+dialler).start("dial", `says "ATZ\r"`).hears("OK", `says "ATD\r"`).hears("CONNECT", ask).is(policy.Dials, phase.Establish)
}

func TestBytesThatAreLost(t *testing.T) {
	r := of(t, plain+"holdoff 5\n").start("dial").hears("RING").keeps(0, 0, 4).hears("").keeps(0, 0, 4).comes(ask)
	n := int64(4 + len(r.frame(ask)))
	r.keeps(0, 0, n).carrier(1, ask).comes(ask, "lcp 2 1").keeps(0, 0, n)
	r.carrier(0, "hang").hears("NO CARRIER").keeps(0, 0, n+10).is(policy.Holds, phase.Dead)
	r = of(t, plain+dialler+"demand\n").start().hears("RING").keeps(0, 0, 4).up("dial", `says "ATZ\r"`).hears("RING").keeps(0, 0, 4)
	r.hears("BUSY and more", "hang").keeps(0, 0, 4).hears("x").keeps(0, 0, 5)
}

func TestAScriptThatIsAborted(t *testing.T) {
	r := of(t, plain+dialler+"holdoff 5\nmaxfail 2\n").start("dial", `says "ATZ\r"`)
	r.hears("BUSY", "hang").dialling(false).is(policy.Holds, phase.Dead).why("failed", 1).due(5000)
	r.at(5000, "dial", `says "ATZ\r"`).dialling(true).hears("OK", `says "ATD\r"`).hears("BUSY", "hang").is(policy.Over, phase.Dead).why("failed", 2).due(-1)
	r.at(api.MaxTime).up("dial", `says "ATZ\r"`).why("failed", 0)
}

func TestWithoutAHoldoffItDialsAtOnce(t *testing.T) {
	r := of(t, plain+dialler+"holdoff 0\nmaxfail 3\n").start("dial", `says "ATZ\r"`)
	r.hears("BUSY", "hang", "dial", `says "ATZ\r"`).hears("BUSYBUSY", "hang", "dial", `says "ATZ\r"`).hears("BUSY", "hang").is(policy.Over, phase.Dead)
	r = linked(t, "holdoff 0\npersist\n")
	r.carrier(0, "hang", "dial").is(policy.Dials, phase.Dead).carrier(1, "lcp 1 2").opens(2, 2).is(policy.Runs, phase.Network)
	r.comes("lcp 5 9", "lcp 6 9").at(3000, "hang", "dial", "lcp 1 3").is(policy.Dials, phase.Establish) // there is a carrier still
}

// VTun

func TestPacketsThatAreNone(t *testing.T) {
	r := linked(t, "")
	r.refuses(api.Event{Kind: api.VTun}, api.ErrIp).refuses(api.Event{Kind: api.VTun, B: []byte{}}, api.ErrIp)
	for first := range 256 {
		b := []byte{byte(first), 1, 2}
		switch first >> 4 {
		case 4:
			r.tun(b, goes(b))
		case 6:
			_, lost, _ := r.tun(b).lost()
			if lost == 0 {
				t.Error(first)
			}
		default:
			r.refuses(api.Event{Kind: api.VTun, B: b}, api.ErrIp)
		}
	}
	r.keeps(0, 16, 0)
}

// lost answers how many packets wait, and what was lost.
func (r *rig) lost() (int, int64, int64) {
	p, b := r.d.Lost()
	return r.d.Queue(), p, b
}

func TestPacketsOnDemand(t *testing.T) {
	r := of(t, plain+"demand\nfilter \"udp and not ip6\"\n").start()
	r.tun(of4(tcp, 1)).tun(of6(2)).tun([]byte{0x40}).keeps(3, 0, 0).is(policy.Rest, phase.Dead) // the filter tells packets that are some alone
	r.tun(of4(udp, 3), "dial").keeps(4, 0, 0).tun(of4(udp, 4)).keeps(5, 0, 0).is(policy.Dials, phase.Dead)
	r.carrier(1, ask).opens(1, 1, goes(of4(tcp, 1)), goes([]byte{0x40}), goes(of4(udp, 3)), goes(of4(udp, 4))).keeps(1, 0, 0)
	r.tun(of4(tcp, 5), goes(of4(tcp, 5))).tun(of6(6)).keeps(2, 0, 0) // there is no IPv6
	r.carrier(0, "hang").keeps(2, 0, 0).tun(of4(tcp, 7)).keeps(3, 0, 0).is(policy.Holds, phase.Dead)
}

func TestWithoutAFilterAllPacketsAreTold(t *testing.T) {
	for _, b := range [][]byte{{0x45}, {0x6f}, of4(udp, 1), of6(1)} {
		of(t, plain+"demand\n").start().tun(b, "dial").keeps(1, 0, 0)
		of(t, plain+"demand\nfilter \"ip and ip6\"\n").start().tun(b).keeps(1, 0, 0)
	}
}

func TestPacketsWithoutDemand(t *testing.T) {
	r := of(t, plain+"holdoff 5\n").start("dial").tun(of4(tcp, 1)).tun(of6(2)).keeps(2, 0, 0) // a link is being made
	r.carrier(1, ask).tun(of4(tcp, 3)).keeps(3, 0, 0).opens(1, 1, goes(of4(tcp, 1)), goes(of4(tcp, 3))).keeps(1, 0, 0)
	r.tun(of4(tcp, 4), goes(of4(tcp, 4))).tun(of6(5)).keeps(1, 1, 0)
	r.comes("lcp 5 9", "lcp 6 9").tun(of4(tcp, 6)).keeps(1, 2, 0) // its network is not ready any more
	r.at(3000, "hang").keeps(0, 3, 0).is(policy.Holds, phase.Dead).tun(of4(tcp, 7)).keeps(0, 4, 0)
	r.at(8000).is(policy.Rest, phase.Dead).tun(of4(tcp, 8)).keeps(0, 5, 0)
}

func TestPacketsThatWaitedForAScript(t *testing.T) {
	r := of(t, plain+dialler+"holdoff 5\n").start("dial", `says "ATZ\r"`).tun(of4(tcp, 1)).hears("BUSY", "hang").keeps(1, 0, 0) // no link was opened
	r.tun(of4(tcp, 2)).keeps(1, 1, 0).at(5000, "dial", `says "ATZ\r"`).hears("OKCONNECT", `says "ATD\r"`, "lcp 1 1").keeps(1, 1, 0)
	r.carrier(0, "hang").keeps(0, 2, 0)
}

func TestTheQueueHasAnEnd(t *testing.T) {
	for _, demand := range []string{"", "demand\n"} {
		r := of(t, plain+demand)
		if demand == "" {
			r.start("dial").tun(of6(0)).keeps(1, 0, 0)
		} else {
			r.start().tun(of6(0), "dial")
		}
		var want []string
		for i := range byte(63) {
			r.tun(of4(tcp, i))
			want = append(want, goes(of4(tcp, i)))
		}
		r.keeps(64, 0, 0).tun(of4(tcp, 99)).tun(of6(99)).keeps(64, 2, 0)
		r.carrier(1, ask).opens(1, 1, want...).keeps(1, 2, 0)
	}
}

func TestPacketsThatAreTooLong(t *testing.T) {
	long, longest := strings.Repeat("x", 100), strings.Repeat("x", 99)
	r := of(t, plain).start("dial").tun([]byte("E"+long)).tun([]byte("E"+longest)).carrier(1, ask)
	r.comes("lcp 2 1").comes("lcp 1 1 01040064", "lcp 2 1 01040064", ipAsk).comes(ipTaken)
	r.comes(ipTheirs, ipGranted, goes([]byte("E"+longest))).keeps(0, 1, 0)
	r.tun([]byte("E"+long)).keeps(0, 2, 0).tun([]byte("E"+longest), goes([]byte("E"+longest))).keeps(0, 2, 0)
	if c := r.d.Counts(true); c.Packets != 2 || c.Bytes != 200 {
		t.Error(c)
	}
}

func TestEachNetworkHasItsOrder(t *testing.T) {
	r := of(t, plain+"ipv6id 0:0:0:1\ndemand\n").start().tun(of6(1), "dial").tun(of4(tcp, 2)).tun(of6(3)).tun(of4(tcp, 4)).carrier(1, ask)
	r.comes("lcp 2 1").comes(ask, "lcp 2 1", ipAsk, "ipv6cp 1 1 010a0000000000000001").comes(ipTaken)
	r.comes(ipTheirs, ipGranted, goes(of4(tcp, 2)), goes(of4(tcp, 4))).is(policy.Runs, phase.Network).keeps(2, 0, 0)
	r.tun(of6(5)).tun(of4(tcp, 6), goes(of4(tcp, 6))).keeps(3, 0, 0).comes("ipv6cp 2 1 010a0000000000000001")
	r.comes("ipv6cp 1 1 010a0000000000000002", "ipv6cp 2 1 010a0000000000000002", six(1), six(3), six(5)).keeps(0, 0, 0)
	r.tun(of6(7), six(7)).comes(six(8), tuns(of6(8)))
	if ip, ip6 := r.d.Ready(); !ip || !ip6 {
		t.Error(ip, ip6)
	}
}

// six is how a packet of IPv6 shows that goes over the line.
func six(mark byte) string {
	return "ipv6" + goes(of6(mark))[len("ip"):]
}

func TestALinkOfIpv6Alone(t *testing.T) {
	r := of(t, plain+"ipv6id 0:0:0:1\n").start("dial").tun(of4(tcp, 1)).tun(of6(2)).carrier(1, ask)
	r.comes("lcp 2 1").comes(ask, "lcp 2 1", ipAsk, "ipv6cp 1 1 010a0000000000000001").comes("lcp 8 2 8021").comes("ipv6cp 2 1 010a0000000000000001")
	r.is(policy.Dials, phase.Network).comes("ipv6cp 1 1 010a0000000000000002", "ipv6cp 2 1 010a0000000000000002", six(2)).is(policy.Runs, phase.Network).keeps(1, 0, 0)
}

func TestAPacketThatIsToldKeepsALinkBusy(t *testing.T) {
	r := linked(t, "idle 10\nfilter udp\n").at(4000).tun(of4(udp, 1), goes(of4(udp, 1))).due(14000)
	r.at(6000).comes(goes(of4(udp, 2)), tuns(of4(udp, 2))).due(16000) // one that comes, too
	r.at(7000).comes(goes(of4(tcp, 3)), tuns(of4(tcp, 3))).tun(of6(4)).due(17000).keeps(0, 1, 0)
	r.at(8000).comes("ip", "tun").comes("ip 45", "tun 45").tun([]byte{0x45}, "ip 45").due(17000)
	r.at(16999).is(policy.Runs, phase.Network).at(17000, "lcp 5 2").why("idle", 0)
	r = linked(t, "idle 10\n").at(4000).comes("ip 50", "tun 50").comes("ip", "tun").due(10000).comes("ip 60", "tun 60").due(14000).at(5000).comes("ip 45", "tun 45").due(15000)
}

func TestAPacketIsKeptAsItCame(t *testing.T) {
	r := of(t, plain).start("dial")
	b := of4(tcp, 1)
	r.tun(b)
	b[0] = 0x50
	r.carrier(1, ask).opens(1, 1, goes(of4(tcp, 1)))
}

// VRandom

func TestRandom(t *testing.T) {
	first := func(seed uint64, numbers ...int64) string {
		d, e, _, _ := New("", "", seed)
		if e != api.OK {
			t.Fatal(e)
		}
		r := &rig{t, d}
		r.start("dial")
		for _, n := range numbers {
			r.step(api.Event{Kind: api.VRandom, N: n}, nil)
		}
		l, _ := d.Step(api.Event{Kind: api.VModem, N: 1})
		return r.shows(l)[0]
	}
	if first(5) == first(6) || first(5) != first(5) || first(5, 0) != first(5) {
		t.Error("draws")
	}
	if first(5, 3) != first(6) || first(5, 1, 2) != first(6) || first(math.MaxUint64, -1) != first(0) || first(0, math.MinInt64) != first(1<<63) {
		t.Error("numbers make other draws")
	}
}

// VModem

func TestCarriersThatAreNone(t *testing.T) {
	r := of(t, plain).start("dial")
	for _, n := range []int64{math.MinInt64, -1, 2, 1 << 32, math.MaxInt64} {
		r.refuses(api.Event{Kind: api.VModem, N: n}, api.ErrArg)
	}
	r.is(policy.Dials, phase.Dead).carrier(1, ask)
}

func TestTheCarrier(t *testing.T) {
	r := of(t, plain+"demand\nholdoff 0\n").start().carrier(1).carrier(0).carrier(1).is(policy.Rest, phase.Dead)
	r.up("dial", ask).carrier(1).is(policy.Dials, phase.Establish) // it is there
	r.carrier(0, "hang", "dial").is(policy.Dials, phase.Dead).why("failed", 1)
	r.carrier(0).is(policy.Dials, phase.Dead).why("failed", 1) // it is waited for still
	r.carrier(1, "lcp 1 2").opens(2, 1).is(policy.Runs, phase.Network).why("", 0)
	r.carrier(0, "hang").is(policy.Rest, phase.Dead).why("lost", 0).up("dial").carrier(1, "lcp 1 3")
}

func TestTheCarrierOfAScript(t *testing.T) {
	r := of(t, plain+dialler+"holdoff 5\n").start("dial", `says "ATZ\r"`).carrier(1).dialling(true).carrier(0, "hang").dialling(false)
	r.is(policy.Holds, phase.Dead).why("failed", 1).hears("OK").keeps(0, 0, 2).carrier(0).carrier(1)
	r.at(5000, "dial", `says "ATZ\r"`).dialling(true).is(policy.Dials, phase.Dead) // the script has to end first
	r = of(t, plain+dialler+"holdoff 0\n").start("dial", `says "ATZ\r"`).carrier(0, "hang", "dial", `says "ATZ\r"`).dialling(true).why("failed", 1)
}

// P29.3

func TestDown(t *testing.T) {
	of(t, plain+"demand\n").start().down().is(policy.Rest, phase.Dead)
	of(t, plain).start("dial").down("hang").is(policy.Holds, phase.Dead).why("down", 0).carrier(1).at(30000).is(policy.Rest, phase.Dead)
	of(t, plain+dialler).start("dial", `says "ATZ\r"`).down("hang").dialling(false).is(policy.Holds, phase.Dead).why("down", 0).hears("OK")
	of(t, plain).start("dial").carrier(1, ask).down("lcp 5 2").is(policy.Ends, phase.Terminate).down().at(3000, "lcp 5 3").at(6000, "hang").why("down", 0)
	linked(t, "persist\n").down("lcp 5 2").is(policy.Ends, phase.Terminate).comes("lcp 6 2", "hang").is(policy.Holds, phase.Dead).why("down", 0).at(30000).is(policy.Rest, phase.Dead)
	linked(t, "holdoff 0\n").down("lcp 5 2").comes("lcp 6 2", "hang").is(policy.Rest, phase.Dead)
}

func TestUp(t *testing.T) {
	of(t, plain+"demand\n").start().up("dial").up().is(policy.Dials, phase.Dead)
	linked(t, "").up().is(policy.Runs, phase.Network).down("lcp 5 2").up().is(policy.Ends, phase.Terminate).comes("lcp 6 2", "hang").at(30000, "dial", "lcp 1 3")
	linked(t, "holdoff 0\n").down("lcp 5 2").up().comes("lcp 6 2", "hang", "dial", "lcp 1 3").is(policy.Dials, phase.Establish)
	r := of(t, plain+"maxfail 1\n").start("dial").carrier(1, ask).carrier(0, "hang").is(policy.Over, phase.Dead).why("failed", 1)
	r.at(29999).up().is(policy.Holds, phase.Dead).why("failed", 0).at(30000, "dial").carrier(1, "lcp 1 2").carrier(0, "hang").is(policy.Over, phase.Dead)
	r.at(60000).up("dial").is(policy.Dials, phase.Dead)
}

func TestALinkThatIsLostWhileItEnds(t *testing.T) {
	linked(t, "").down("lcp 5 2").carrier(0, "hang").is(policy.Holds, phase.Dead).why("down", 0)
}

func TestALinkThatEndsOfItself(t *testing.T) {
	r := linked(t, "holdoff 1\n").comes("lcp 5 7", "lcp 6 7").is(policy.Runs, phase.Establish).at(3000, "hang").is(policy.Holds, phase.Dead).why("lost", 0)
	r.at(4000).is(policy.Rest, phase.Dead)
	r = linked(t, "holdoff 1\npersist\n").comes("lcp 5 7", "lcp 6 7").at(3000, "hang").at(4000, "dial", "lcp 1 2").opens(2, 2).is(policy.Runs, phase.Network)
}
