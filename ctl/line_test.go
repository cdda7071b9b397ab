package ctl

import (
	"strconv"
	"strings"
	"testing"

	"tether/api"
)

// Examples

func TestAsInTheExample(t *testing.T) {
	d := desk(t, "")
	if l, e := d.Start(); e != api.OK || !sameOuts(l, []api.Out{{Kind: api.ODial}}) {
		t.Error(l, e)
	}
	says(t, d, "status", "policy Dials phase Dead ready none")
	says(t, d, "filter tcp and", "error 231 at 7")
	says(t, d, "md5 616263", "900150983cd24fb0d6963f7d28e17f72")
	says(t, d, "foo", "error 51")
	says(t, d, "now 1", "error 1")
}

// P30.6: what a line is answered

func TestLinesThatAreNone(t *testing.T) {
	d := started(t, "")
	for line, want := range map[string]string{
		"": "", " ": "", "\t \t": "", strings.Repeat(" ", api.MaxLine): "",
		strings.Repeat(" ", api.MaxLine+1): "error 4", strings.Repeat("x", api.MaxLine+1): "error 4", "now" + strings.Repeat(" ", api.MaxLine-2): "error 4",
		strings.Repeat("x", api.MaxLine): "error 51", "x": "error 51", "Now": "error 51", "now\n": "error 51", "no": "error 51", "nows": "error 51", "\x00": "error 51", "\xff now": "error 51", "x y z": "error 51",
		"policy": "error 51", "-": "error 51", "now\r": "error 51", "n ow": "error 51", "FILTER ip": "error 51",
	} {
		says(t, d, line, want)
	}
}

func TestBlanksPartWords(t *testing.T) {
	d := started(t, "")
	for _, line := range []string{"now", " now", "now ", "\tnow\t", "  \t now \t  ", "now" + strings.Repeat(" ", api.MaxLine-3)} {
		says(t, d, line, "0")
	}
	for _, line := range []string{"tells 60 ip6", "tells\t60\tip6", "  tells   60   ip6  ", "tells \t 60 \t ip6\t"} {
		says(t, d, line, "no")
	}
	says(t, d, "  filter \t ip  and\ttcp \t ", "ip and tcp")
	says(t, d, "filter tcp\n", "error 230 at 3") // a byte 10 is no blank
	says(t, d, "secret \ta mill x\n\nb mill y \t", "2")
}

func TestTooFewWordsAndTooMany(t *testing.T) {
	d := started(t, "")
	for _, word := range []string{"up", "down", "status", "why", "addrs", "who", "counters", "rates", "queue", "failures", "now", "next", "conf"} {
		says(t, d, word+" x", "error 1")
		says(t, d, "\t"+word+"\t"+word+" 1", "error 1")
	}
	for _, word := range []string{"filter", "tells", "chat", "secret", "options", "md5", "fcs", "frame", "tells 45", "tells zz"} {
		says(t, d, word, "error 1")
		says(t, d, word+" \t ", "error 1")
	}
	for _, word := range []string{"md5", "fcs", "frame"} {
		says(t, d, word+" 41 42", "error 1")
		says(t, d, word+" zz 42", "error 1")
	}
	says(t, d, "status", "policy Dials phase Dead ready none")
}

func TestWhatLinesAskOfADaemonThatHasNotStarted(t *testing.T) {
	d := desk(t, "name me\n")
	for line, want := range map[string]string{
		"up": "error 9", "down": "error 9", "up 1": "error 1", "status": "policy Rest phase Dead ready none", "why": "-", "addrs": "0.0.0.0 0.0.0.0", "who": "-", "counters": "in 0 0 0 out 0 0 0 lost 0 0",
		"rates": "in nan nan out nan nan", "queue": "0", "failures": "0", "now": "0", "next": "none", "conf": "name me\n", "filter ip": "ip", "": "", "x": "error 51", "options demand": "name me\ndemand\n",
	} {
		says(t, d, line, want)
	}
}

func TestUpAndDown(t *testing.T) {
	d := started(t, "demand\n")
	say := func(line, want string, out ...api.Out) {
		t.Helper()
		if got, l := d.Line(line); got != want || !sameOuts(l, out) {
			t.Error(line, got, l)
		}
	}
	say("up", "ok", api.Out{Kind: api.ODial})
	say("up", "ok")
	say(" down ", "ok", api.Out{Kind: api.OHang})
	say("down", "ok")
	say("status", "policy Holds phase Dead ready none")
	say("why", "down")
	say("next", "30000")
}

func TestStatus(t *testing.T) {
	d := started(t, mill+"maxfail 1\n")
	step := func(kind int, n int64) {
		t.Helper()
		if _, e := d.Step(api.Event{Kind: kind, N: n}); e != api.OK {
			t.Fatal(e)
		}
	}
	step(api.VModem, 1)
	says(t, d, "status", "policy Dials phase Establish ready none")
	says(t, d, "next", "3000")
	step(api.VModem, 0)
	says(t, d, "status", "policy Over phase Dead ready none")
	says(t, d, "why", "failed")
	says(t, d, "failures", "1")
	says(t, d, "next", "none")
	says(t, started(t, "demand"), "status", "policy Rest phase Dead ready none")
	a, b, w := pair(t, "ipv6\nidle 10\n")
	says(t, a, "status", "policy Runs phase Network ready ip ipv6")
	says(t, b, "status", "policy Runs phase Network ready ip ipv6")
	plays(t, w, Act{Kind: Tick, N: 10000}, Act{Kind: Drop, N: 1 << 40}, Act{Kind: Drop, Side: 1, N: 1 << 40})
	says(t, a, "status", "policy Ends phase Terminate ready none")
	says(t, a, "why", "idle")
	plays(t, w, Act{Kind: Modem, N: 0})
	says(t, a, "status", "policy Holds phase Dead ready none")
	a, _, _ = pair(t, "")
	says(t, a, "status", "policy Runs phase Network ready ip")
	a, b = desk(t, mill+"ipv6\n"), desk(t, alice+"ipv6\n10.0.0.1:\n") // the address is the other one's
	joined(t, a, b, flow)
	says(t, a, "status", "policy Runs phase Network ready ipv6")
	a, b = desk(t, mill+"require-pap\n", "alice mill x"), desk(t, alice)
	joined(t, a, b, Act{Kind: Carry, Side: 1, N: 1 << 20}, Act{Kind: Carry, N: 1 << 20}, Act{Kind: Drop, Side: 1, N: 1 << 20})
	says(t, a, "status", "policy Dials phase Authenticate ready none")
}

func TestAddrsAndWho(t *testing.T) {
	for _, k := range []struct{ method, name, want string }{{"pap", "alice", "alice"}, {"chap", "alice", "alice"}, {"eap", "alice", "alice"}, {"chap", "alice smith", `"alice smith"`}, {"pap", "#1", `"#1"`}} {
		secrets := `"` + k.name + `" mill x`
		a := desk(t, "name mill\n10.0.0.1:10.0.0.9\nrequire-"+k.method, secrets)
		b := desk(t, "name \""+k.name+"\"\nremotename mill", secrets)
		joined(t, a, b, flow)
		says(t, a, "who", k.want)
		says(t, b, "who", "-")
		says(t, a, "addrs", "10.0.0.1 10.0.0.9")
		says(t, b, "addrs", "10.0.0.9 10.0.0.1")
	}
}

func TestCountersAndRates(t *testing.T) {
	a, b, w := pair(t, "deflate 12\nmru 1000\n")
	zeros := append([]byte{0x45}, make([]byte, 99)...)
	plays(t, w, Act{Kind: Packet, B: zeros}, Act{Kind: Packet, Side: 1, B: []byte{0x45}}, Act{Kind: Packet, Side: 1, B: []byte{0x45, 1, 2}}, flow)
	plays(t, w, Act{Kind: Packet, B: append([]byte{0x45}, make([]byte, 1000)...)}, Act{Kind: Packet, B: six(1)}) // too long, no network
	says(t, a, "counters", "in 2 4 4 out 1 100 9 lost 2 0")
	says(t, b, "counters", "in 1 100 9 out 2 4 4 lost 0 0")
	says(t, a, "rates", "in inf 0 out inf 0.91")
	plays(t, w, Act{Kind: Tick, N: 3000})
	says(t, a, "rates", "in 1.3333333333333333 0 out 33.333333333333336 0.91")
	says(t, b, "rates", "in 33.333333333333336 0.91 out 1.3333333333333333 0")
	says(t, a, "now", "3000")
	d := started(t, "")
	d.Step(api.Event{Kind: api.VSerial, B: []byte("RING")})
	d.Step(api.Event{Kind: api.VTun, B: four(tcp, 1)})
	says(t, d, "counters", "in 0 0 0 out 0 0 0 lost 0 4")
	says(t, d, "queue", "1")
}

func TestConfAndOptions(t *testing.T) {
	text := "name me\n10.0.0.1:\nidle 90000ms\ndemand\n"
	d := started(t, "name me # mine\n\n10.0.0.1:\nidle 90\ndemand\n")
	says(t, d, "conf", text)
	says(t, d, "options mru 600", "name me\nmru 600\n10.0.0.1:\nidle 90000ms\ndemand\n")
	says(t, d, "options nodemand\nidle 0 # never", "name me\n10.0.0.1:\n")
	says(t, d, "options # nothing", text)
	says(t, d, "options idle 5\nmru 10\nfoo", "error 52 at 1")
	says(t, d, "options foo", "error 51 at 0")
	says(t, d, "options mru", "error 1 at 0")
	says(t, d, "options name \"a", "error 50 at 0")
	says(t, d, "options filter \"a\tb\"", "name me\n10.0.0.1:\nidle 90000ms\ndemand\nfilter \"a\tb\"\n") // no filter, but a text
	says(t, d, "conf", text)
	says(t, started(t, ""), "conf", "")
}

func TestFilterAndTells(t *testing.T) {
	d := started(t, "")
	says(t, d, "filter tcp&&(dst port 80||!icmp)", "tcp and (dst port 80 or not icmp)")
	says(t, d, "filter host 1.2.3", "error 230 at 5")
	says(t, d, "filter tcp tcp", "error 231 at 4")
	says(t, d, "filter "+strings.Repeat("(", 31)+"ip", "error 232 at 30")
	packet := hexOf(four(tcp, 1))
	says(t, d, "tells "+packet+" tcp and not udp", "yes")
	says(t, d, "tells "+strings.ToUpper(packet)+" udp", "no")
	says(t, d, "tells 00 less 1", "yes")
	says(t, d, "tells zz tcp and", "error 231 at 7") // the expression's error goes ahead
	says(t, d, "tells zz tcp", "error 3")
	says(t, d, "tells 4 tcp", "error 3")
	says(t, d, "tells tcp 45", "error 231 at 0")
}

func TestChatAndSecret(t *testing.T) {
	d := started(t, "")
	says(t, d, "chat ABORT BUSY '' ATZ OK-A-OK ''", `ABORT "BUSY" "" "ATZ" "OK-A-OK" ""`)
	says(t, d, "chat ''", `""`)
	says(t, d, "chat a b TIMEOUT x", "error 70 at 3")
	says(t, d, "chat "+strings.Repeat("SAY a ", 65), "error 7 at 0")
	says(t, d, "secret alice mill x", "1")
	says(t, d, "secret alice mill x\nbob mill \"y z\" 10.0.0.1 # his\n\nx", "error 50 at 3")
	says(t, d, "secret alice mill x 10.0.0.256", "error 150 at 0")
	says(t, d, "secret # none", "0")
}

func TestDigestsAndSums(t *testing.T) {
	d := started(t, "")
	says(t, d, "md5 6D", "6f8f57715090da2632453988d9a1501b")
	says(t, d, "md5 6", "error 3")
	says(t, d, "md5 0x", "error 3")
	says(t, d, "fcs 313233343536373839", "906e")
	says(t, d, "fcs 00", "f078")
	says(t, d, "fcs 1g", "error 3")
	for n := range 256 { // with zeros ahead, too
		digits := strconv.FormatInt(int64(n)+256, 16)[1:]
		if got, _ := d.Line("fcs " + digits); len(got) != 4 || strings.ToLower(got) != got {
			t.Error(n, got)
		}
	}
}

func TestFrame(t *testing.T) {
	d := started(t, "")
	says(t, d, "frame ff03c02101010004", "49185 01010004")
	says(t, d, "frame c02101010004", "49185 01010004")
	says(t, d, "frame 2145AB", "33 45ab")
	says(t, d, "frame 002145", "33 45")
	says(t, d, "frame 21", "33 ")
	says(t, d, "frame ff03", "error 8")
	says(t, d, "frame 00", "error 8")
	says(t, d, "frame 0100", "1 00")
	says(t, d, "frame 0000", "error 30")
	says(t, d, "frame 2", "error 3")
}

func hexOf(b []byte) string {
	var s strings.Builder
	for _, c := range b {
		s.WriteString(strconv.FormatInt(int64(c)+256, 16)[1:])
	}
	return s.String()
}
