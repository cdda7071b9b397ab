package daemon

import (
	"math"
	"strings"
	"testing"

	"tether/api"
	"tether/conf"
	"tether/meter"
	"tether/phase"
	"tether/policy"
)

// Examples

func TestAsInTheExample(t *testing.T) {
	r := of(t, "demand\nidle 10\nfilter tcp\n").start().is(policy.Rest, phase.Dead)
	r.tun(of4(udp, 1)).keeps(1, 0, 0).is(policy.Rest, phase.Dead)
	r.tun(of4(tcp, 2), "dial").keeps(2, 0, 0).is(policy.Dials, phase.Dead)
	l, e := r.d.Step(api.Event{Kind: api.VModem, N: 1})
	if got := r.shows(l); e != api.OK || len(got) != 1 || !strings.HasPrefix(got[0], "lcp 1 1 0506") {
		t.Error(got, e)
	}
	if d, e, text, at := New("mru 1", "", 0); d != nil || e != api.ErrValue || text != 0 || at != 0 {
		t.Error(d, e, text, at)
	}
}

func TestAsInTheFirstExampleOfTheWhole(t *testing.T) {
	r := of(t, "noauth").start("dial").is(policy.Dials, phase.Dead)
	l, e := r.d.Step(api.Event{Kind: api.VModem, N: 1})
	if e != api.OK || len(l) != 1 || !strings.HasPrefix(string(l[0].B), "\x7e\xff\x7d\x23\xc0\x21") {
		t.Fatal(l, e)
	}
	if got := r.shows(l)[0]; len(got) != len("lcp 1 1 0506aabbccdd07020802") || !strings.HasPrefix(got, "lcp 1 1 0506") || !strings.HasSuffix(got, "07020802") {
		t.Error(got)
	}
}

func TestAsInTheFifthExampleOfTheWhole(t *testing.T) {
	r := of(t, plain+"demand\nfilter tcp\n").start().tun(of4(udp, 1)).tun(of4(tcp, 2), "dial")
	r.carrier(1, ask).opens(1, 1, goes(of4(udp, 1)), goes(of4(tcp, 2))).keeps(0, 0, 0)
}

func TestAsInTheSixthExampleOfTheWhole(t *testing.T) {
	r := linked(t, "idle 10\nfilter tcp\n").due(10000)
	r.at(5000).tun(of4(tcp, 1), goes(of4(tcp, 1))).due(15000)
	r.at(14000).tun(of4(udp, 1), goes(of4(udp, 1))).due(15000).at(14999).is(policy.Runs, phase.Network)
	r.at(15400, "lcp 5 2").is(policy.Ends, phase.Terminate).why("idle", 0)
	r.comes("lcp 6 2", "hang").is(policy.Holds, phase.Dead).why("idle", 0)
}

func TestAsInTheSeventhExampleOfTheWhole(t *testing.T) {
	r := of(t, plain+"connect \"ABORT BUSY '' ATZ OK ATD CONNECT\"\nmaxfail 1\n")
	r.start("dial", `says "ATZ\r"`).dialling(true).is(policy.Dials, phase.Dead)
	r.hears("OK\r\nBUS", `says "ATD\r"`).hears("Y", "hang").dialling(false).is(policy.Over, phase.Dead).why("failed", 1)
	r.at(1<<30).up("dial", `says "ATZ\r"`).is(policy.Dials, phase.Dead).why("failed", 0)
}

func TestAsInTheEighthExampleOfTheWhole(t *testing.T) {
	r := linked(t, "echo-interval 5\necho-failure 3\n").due(5000)
	r.at(5000, "lcp 9 2 00000000").at(10000, "lcp 9 3 00000000").at(15000, "lcp 9 4 00000000")
	r.at(20000, "lcp 5 5").is(policy.Runs, phase.Establish) // the policy hears of it when the link is Dead
	r.comes("lcp 6 5", "hang").is(policy.Holds, phase.Dead).why("lost", 0)
}

func TestAsInTheNinthExampleOfTheWhole(t *testing.T) {
	r := linked(t, "")
	b := r.frame(goes(of4(tcp, 1)))
	b[9] ^= 4
	r.hears(string(b)).is(policy.Runs, phase.Network)
	if r.d.link.Line().Sums != 1 {
		t.Error(r.d.link.Line())
	}
	r.comes("2b 0102", "lcp 8 2 002b0102").comes("ipv6 60", "lcp 8 3 005760").is(policy.Runs, phase.Network)
}

func TestAsInTheTenthExampleOfTheWhole(t *testing.T) {
	if d, e, text, at := New("mru 10", "", 0); d != nil || e != api.ErrValue || text != 0 || at != 0 {
		t.Error(d, e, text, at)
	}
}

// P29.1

func TestNewRefusesWhatCanNotBe(t *testing.T) {
	chatty := "connect \"ABORT A 'b\"\n"
	filtered := "filter \"tcp tcp\"\n"
	for _, k := range []struct {
		options, secrets string
		want             api.Errno
		text, at         int
	}{
		{"mru 10", "", api.ErrValue, 0, 0},
		{"\n\nmrru 10\n" + chatty, "alice", api.ErrWord, 0, 2},
		{"mru", "", api.ErrArg, 0, 0},
		{"name \"a", "", api.ErrLine, 0, 0},
		{strings.Repeat("#", api.MaxText+1), "alice", api.ErrSize, 0, -1},
		{"maxfail 256", "", api.ErrValue, 0, 0},
		{chatty + filtered, "\nalice", api.ErrLine, 1, 1},
		{"", "alice mill x 10.0.0.256", api.ErrAddr, 1, 0},
		{"", strings.Repeat("a b c\n", 65), api.ErrFull, 1, 64},
		{chatty + filtered, "a b c", api.ErrChat, 2, 2},
		{"connect ABORT", "", api.ErrChat, 2, 0},
		{"connect \"" + strings.Repeat("SAY a ", 65) + "\"", "", api.ErrFull, 2, 0},
		{filtered, "", api.ErrExpr, 3, 4},
		{"filter \" \"", "", api.ErrExpr, 3, 1},
		{"filter \"host 1.2.3\"", "", api.ErrToken, 3, 5},
	} {
		if d, e, text, at := New(k.options, k.secrets, 1); d != nil || e != k.want || text != k.text || at != k.at {
			t.Errorf("%.40q %.40q: %v %v %v", k.options, k.secrets, e, text, at)
		}
	}
}

func TestNewTakesWhatCanBe(t *testing.T) {
	for _, options := range []string{
		"", "filter \"\"\nconnect \"\"", "connect \" \"", "filter ip", "noaccept\nnoauth", "maxfail 0\nholdoff 0\nidle 0",
		"filter \"" + strings.Repeat("not ", 30) + "tcp\"", "0.0.0.0:10.0.0.2", "mru 16384\ndeflate 15\nbsdcomp 15\nipv6",
		"filter \"less 65535 or greater 0 or net 1.2.3.4/32 and port 0\"",
	} {
		r := of(t, options, "alice mill x", "* * \"\"")
		if got, e, _ := conf.Parse(options); e != api.OK || !conf.Same(r.d.Conf(), got) {
			t.Error(options, r.d.Conf())
		}
		r.is(policy.Rest, phase.Dead).why("", 0).keeps(0, 0, 0).due(-1).dialling(false)
	}
}

// calls are those that have an error, by names, with arguments that can be.
func calls(d *Daemon) map[string]func() ([]api.Out, api.Errno) {
	out := map[string]func() ([]api.Out, api.Errno){"start": d.Start, "up": d.Up, "down": d.Down}
	for name, e := range map[string]api.Event{
		"serial": {Kind: api.VSerial, B: []byte{0x7e}}, "tun": {Kind: api.VTun, B: []byte{0x45}}, "tick": {Kind: api.VTick, N: 5}, "random": {Kind: api.VRandom, N: -1},
		"modem": {Kind: api.VModem, N: 1}, "control": {Kind: api.VControl, Text: "up"}, "none": {}, "empty tun": {Kind: api.VTun}, "no time": {Kind: api.VTick, N: -1},
	} {
		out[name] = func() ([]api.Out, api.Errno) { return d.Step(e) }
	}
	return out
}

func TestOfNil(t *testing.T) {
	for _, d := range []*Daemon{nil, {}} {
		for name, call := range calls(d) {
			if l, e := call(); len(l) != 0 || e != api.ErrNil {
				t.Error(name, l, e)
			}
		}
		r := &rig{t, d}
		r.is(policy.Rest, phase.Dead).why("", 0).keeps(0, 0, 0).dialling(false)
		if at, e := d.Next(); at != 0 || e != api.ErrNil {
			t.Error(at, e)
		}
		a, b := d.Addrs()
		ip, ip6 := d.Ready()
		if a != 0 || b != 0 || ip || ip6 || d.Now() != 0 || d.Who() != "" || !conf.Same(d.Conf(), api.Conf{}) {
			t.Error("something of nil")
		}
		for _, out := range []bool{false, true} {
			if d.Counts(out) != (meter.Counts{}) || !isNaN(d.Rate(out)) || !isNaN(d.Gain(out)) {
				t.Error("a number of nil")
			}
		}
	}
}

// isNaN tells whether v is the NaN, bit by bit.
func isNaN(v float64) bool {
	return math.Float64bits(v) == 0x7ff8000000000001
}

func TestWhatHasNotStarted(t *testing.T) {
	for _, k := range []struct {
		options     string
		dial, first []string
		state       int
	}{{plain, []string{"dial"}, []string{ask}, policy.Dials}, {plain + "demand\n", nil, nil, policy.Rest}} {
		r := of(t, k.options)
		for name, call := range calls(r.d) {
			if name == "start" {
				continue
			}
			if l, e := call(); len(l) != 0 || e != api.ErrState {
				t.Error(name, l, e)
			}
		}
		r.is(policy.Rest, phase.Dead).keeps(0, 0, 0).due(-1)
		if r.d.Now() != 0 || !isNaN(r.d.Rate(true)) || !isNaN(r.d.Gain(false)) {
			t.Error("something was counted")
		}
		r.start(k.dial...).is(k.state, phase.Dead)
		if l, e := r.d.Start(); len(l) != 0 || e != api.ErrState {
			t.Error(l, e)
		}
		r.carrier(1, k.first...)
	}
}

func TestStartDials(t *testing.T) {
	of(t, plain).start("dial").is(policy.Dials, phase.Dead).dialling(false).due(-1)
	of(t, plain+"connect \"'' AT OK ''\"\n").start("dial", `says "AT\r"`).dialling(true).due(45000)
	of(t, plain+`connect "'' '\\c' OK"`).start("dial").dialling(true) // nothing is said, so nothing is put out
	of(t, plain+"connect \" \"\n").start("dial", ask).dialling(false).is(policy.Dials, phase.Establish)
	of(t, plain+"connect \"'' ATA\"\n").start("dial", `says "ATA\r"`, ask).dialling(false).is(policy.Dials, phase.Establish)
	of(t, plain+"demand\nconnect \"'' AT OK ''\"\n").start().is(policy.Rest, phase.Dead).due(-1)
}

// P29.4

func TestWhatIsTold(t *testing.T) {
	r := linked(t, "holdoff 7s\n", "alice mill x")
	a, b := r.d.Addrs()
	ip, ip6 := r.d.Ready()
	if a != 0x0a000001 || b != 0x0a000002 || !ip || ip6 || r.d.Who() != "" || r.d.Now() != 0 {
		t.Error(a, b, ip, ip6, r.d.Who(), r.d.Now())
	}
	c := r.d.Conf()
	if c.Name != "mill" || c.Holdoff != 7000 {
		t.Error(c)
	}
	c.Accept[0] = 99
	if r.d.Conf().Accept[0] == 99 {
		t.Error("the configuration's methods are shared")
	}
	r.tun(of4(tcp, 1), goes(of4(tcp, 1))).comes(goes(of4(udp, 2)), tuns(of4(udp, 2))).comes(goes(of4(udp, 3)), tuns(of4(udp, 3)))
	if !math.IsInf(r.d.Rate(true), 1) || r.d.Gain(true) != 0 {
		t.Error(r.d.Rate(true), r.d.Gain(true))
	}
	r.at(2000)
	if in, out := r.d.Counts(false), r.d.Counts(true); in != (meter.Counts{Packets: 2, Bytes: 82, Wire: 82}) || out != (meter.Counts{Packets: 1, Bytes: 41, Wire: 41}) {
		t.Error(in, out)
	}
	if in, out := r.d.Rate(false), r.d.Rate(true); in != 41 || out != 20.5 || r.d.Now() != 2000 {
		t.Error(in, out)
	}
}

func TestWho(t *testing.T) {
	r := of(t, plain+"require-pap\n", "alice mill x").start("dial").carrier(1, "lcp 1 1 0304c023")
	r.comes("lcp 2 1 0304c023").comes(ask, "lcp 2 1").is(policy.Dials, phase.Authenticate)
	r.comes("pap 1 7 05616c6963650178", "pap 2 7 0777656c636f6d65", ipAsk)
	if r.d.Who() != "alice" {
		t.Error(r.d.Who())
	}
	r.carrier(0, "hang")
	if r.d.Who() != "" {
		t.Error(r.d.Who())
	}
}

func TestNextIsTheLeast(t *testing.T) {
	r := of(t, plain+"connect \"'' A 'TIMEOUT' 20 b\"\nholdoff 60\nlcp-restart 5\n") // a word in quotes is waited for
	r.start("dial", `says "A\r"`).due(45000).at(100).hears("TIMEOUT", `says "20\r"`).due(45100)
	r.at(200).hears("b", ask).due(5200).at(5200, "lcp 1 2").due(10200).comes("lcp 2 2").comes(ask, "lcp 2 1", ipAsk).due(10200)
	r.carrier(0, "hang").is(policy.Holds, phase.Dead).why("failed", 1).due(65200)
	r = linked(t, "idle 30\nmaxconnect 20\necho-interval 15\n").due(15000).at(15000, "lcp 9 2 00000000").due(20000).comes("lcp 10 2 00000000")
	r.at(19999).at(20000, "lcp 5 3").is(policy.Ends, phase.Terminate).why("session", 0).due(23000)
	r.at(23000, "lcp 5 4").at(26000, "hang").is(policy.Holds, phase.Dead).due(56000).at(56000).is(policy.Rest, phase.Dead).due(-1)
}

func TestNextMayLieAboveTheLastTime(t *testing.T) {
	of(t, plain+"lcp-restart 5\n").start("dial").at(api.MaxTime-1).carrier(1, ask).due(api.MaxTime + 4999)
	of(t, plain+"connect a\n").start("dial").due(45000).at(api.MaxTime, "hang").is(policy.Holds, phase.Dead).due(api.MaxTime)
}
