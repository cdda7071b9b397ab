package ctl

import (
	"bytes"
	"math"
	"strconv"
	"strings"
	"testing"

	"tether/api"
	"tether/chat"
	"tether/conf"
	"tether/daemon"
	"tether/fcs"
	"tether/filter"
	"tether/hdlc"
	"tether/md5"
	"tether/meter"
	"tether/octet"
	"tether/phase"
	"tether/secret"
)

// P30.1

func TestNewIsTheDaemons(t *testing.T) {
	for _, k := range []struct {
		options, secrets string
	}{{"", ""}, {"mru 10", "alice"}, {"\nmrru", ""}, {"", "\nalice"}, {"connect 'a", ""}, {"filter \"tcp tcp\"", ""}, {strings.Repeat("#", api.MaxText+1), ""}, {"demand", "a b c"}} {
		d, e, text, at := New(k.options, k.secrets, 7)
		o, want, i, j := daemon.New(k.options, k.secrets, 7)
		if e != want || text != i || at != j || (d == nil) != (o == nil) {
			t.Errorf("%.30q %v %v %v instead of %v %v %v", k.options, e, text, at, want, i, j)
		}
		if d != nil && (d.Phase() != phase.Dead || d.started) {
			t.Error(d)
		}
	}
}

func TestOfANilDesk(t *testing.T) {
	for _, d := range []*Desk{nil, {}} {
		if l, e := d.Start(); len(l) != 0 || e != api.ErrNil {
			t.Error(l, e)
		}
		for kind := -1; kind < 8; kind++ {
			if l, e := d.Step(api.Event{Kind: kind, Text: "now", B: []byte{0x45}}); len(l) != 0 || e != api.ErrNil {
				t.Error(kind, l, e)
			}
		}
		for _, n := range []int{0, 1, api.MaxScript + 1} {
			if l, e, at := d.Run(make([]api.Event, n)); len(l) != 0 || e != api.ErrNil || at != 0 {
				t.Error(n, l, e, at)
			}
		}
		for _, line := range []string{"", "now", "foo", "up", strings.Repeat("x", api.MaxLine+1)} {
			says(t, d, line, "error 2")
		}
		if ip, ip6 := d.Ready(); ip || ip6 || d.Phase() != 0 {
			t.Error(ip, ip6)
		}
	}
}

func TestADeskIsItsDaemon(t *testing.T) {
	for seed := range chance(100) {
		r := seed + 1
		options := r.options("mill", "alice", "10.0.0.1")
		d, _, _, _ := New(options, "alice mill x", 5)
		o, _, _, _ := daemon.New(options, "alice mill x", 5)
		both := func(l []api.Out, e api.Errno) func(m []api.Out, f api.Errno) {
			return func(m []api.Out, f api.Errno) {
				t.Helper()
				if e != f || !sameOuts(l, m) {
					t.Fatal(l, e, "instead of", m, f)
				}
			}
		}
		if r.next(2) == 0 {
			both(d.Step(api.Event{Kind: api.VTick}))(o.Step(api.Event{Kind: api.VTick}))
		}
		both(d.Start())(o.Start())
		both(d.Start())(o.Start())
		for range 40 {
			e := api.Event{Kind: one(&r, api.VSerial, api.VTun, api.VTick, api.VRandom, api.VModem, 0, 7), B: r.packet(), N: o.Now() + int64(r.next(3))}
			if r.next(3) > 0 {
				e.N = int64(r.next(3))
			}
			both(d.Step(e))(o.Step(e))
			p, q := d.Ready()
			if v, w := o.Ready(); p != v || q != w || d.Phase() != o.Phase() {
				t.Fatal(p, q, d.Phase())
			}
		}
	}
}

func TestAStepOfControl(t *testing.T) {
	d := desk(t, "demand\n")
	control := func(text string) api.Event { return api.Event{Kind: api.VControl, Text: text, B: []byte{1}, N: -1} }
	if l, e := d.Step(control("now")); len(l) != 0 || e != api.ErrState {
		t.Error(l, e)
	}
	if l, e := d.Start(); len(l) != 0 || e != api.OK {
		t.Error(l, e)
	}
	for text, want := range map[string][]api.Out{
		"": {{Kind: api.OTell}}, "now": {{Kind: api.OTell, Text: "0"}}, "x": {{Kind: api.OTell, Text: "error 51"}}, "filter tcp and": {{Kind: api.OTell, Text: "error 231 at 7"}},
	} {
		if l, e := d.Step(control(text)); e != api.OK || !sameOuts(l, want) {
			t.Error(text, l, e)
		}
	}
	if l, e := d.Step(control("up")); e != api.OK || !sameOuts(l, []api.Out{{Kind: api.ODial}, {Kind: api.OTell, Text: "ok"}}) {
		t.Error(l, e)
	}
}

func TestRun(t *testing.T) {
	script := []api.Event{{Kind: api.VControl, Text: "up"}, {Kind: api.VTick, N: 5}, {Kind: api.VControl, Text: "now"}, {Kind: api.VTick, N: 4}, {Kind: api.VControl, Text: "down"}}
	d := desk(t, "demand\n")
	if l, e, at := d.Run(script); len(l) != 0 || e != api.ErrState || at != 0 {
		t.Error(l, e, at)
	}
	if l, e, at := d.Run(nil); len(l) != 0 || e != api.OK || at != 0 {
		t.Error(l, e, at)
	}
	d.Start()
	want := []api.Out{{Kind: api.ODial}, {Kind: api.OTell, Text: "ok"}, {Kind: api.OTell, Text: "5"}}
	if l, e, at := d.Run(script); !sameOuts(l, want) || e != api.ErrArg || at != 3 {
		t.Error(l, e, at)
	}
	says(t, d, "status", "policy Dials phase Dead ready none")
	if l, e, at := d.Run(script[4:]); !sameOuts(l, []api.Out{{Kind: api.OHang}, {Kind: api.OTell, Text: "ok"}}) || e != api.OK || at != 0 {
		t.Error(l, e, at)
	}
	long := make([]api.Event, api.MaxScript+1)
	for i := range long {
		long[i] = api.Event{Kind: api.VTick, N: 9}
	}
	if l, e, at := d.Run(long); len(l) != 0 || e != api.ErrSize || at != 0 {
		t.Error(l, e, at)
	}
	says(t, d, "now", "5")
	if l, e, at := d.Run(long[1:]); len(l) != 0 || e != api.OK || at != 0 {
		t.Error(l, e, at)
	}
	says(t, d, "now", "9")
}

// P30.6

// isBlank tells whether r parts words.
func isBlank(r rune) bool {
	return r == ' ' || r == '\t'
}

// behind answers what stands behind the first n words of a line, blanks at its ends aside.
func behind(line string, n int) string {
	s := strings.TrimFunc(line, isBlank)
	for range n {
		s = strings.TrimLeftFunc(strings.TrimPrefix(s, strings.FieldsFunc(s, isBlank)[0]), isBlank)
	}
	return s
}

func fault(e api.Errno) string {
	return "error " + strconv.Itoa(int(e))
}

func faultAt(e api.Errno, at int) string {
	return fault(e) + " at " + strconv.Itoa(at)
}

// or answers a text, or the error in its place.
func or(text string, e api.Errno) string {
	if e != api.OK {
		return fault(e)
	}
	return text
}

// asked answers what a line is to be answered, by the layers' calls.
func asked(o *daemon.Daemon, line string) string {
	words := strings.FieldsFunc(line, isBlank)
	switch {
	case len(line) > 1024:
		return fault(api.ErrSize)
	case len(words) == 0:
		return ""
	}
	least, most := 1, 1
	switch words[0] {
	case "up", "down", "status", "why", "addrs", "who", "counters", "rates", "queue", "failures", "now", "next", "conf":
	case "filter", "chat", "secret", "options":
		least, most = 2, math.MaxInt
	case "tells":
		least, most = 3, math.MaxInt
	case "md5", "fcs", "frame":
		least, most = 2, 2
	default:
		return fault(api.ErrWord)
	}
	switch {
	case len(words) < least || len(words) > most:
		return fault(api.ErrArg)
	case most == 1:
		return told(o, words[0])
	case most == 2:
		return reckoned(words[0], words[1])
	}
	return tried(o, words, behind(line, least-1))
}

// told answers what the daemon is.
func told(o *daemon.Daemon, word string) string {
	state, why := o.Policy()
	number := func(n int64) string { return strconv.FormatInt(n, 10) }
	orNone := func(text, none string) string {
		if text == "" {
			return none
		}
		return text
	}
	switch word {
	case "status":
		ip, ip6 := o.Ready()
		ready := map[[2]bool]string{{false, false}: "none", {true, false}: "ip", {false, true}: "ipv6", {true, true}: "ip ipv6"}[[2]bool{ip, ip6}]
		return "policy " + []string{"Rest", "Holds", "Dials", "Runs", "Ends", "Over"}[state] + " phase " + phase.Name(o.Phase()) + " ready " + ready
	case "why":
		return orNone(why, "-")
	case "addrs":
		a, b := o.Addrs()
		s, _ := conf.Addr(a)
		r, _ := conf.Addr(b)
		return s + " " + r
	case "who":
		if o.Who() == "" {
			return "-"
		}
		return or(conf.Quote(o.Who()))
	case "counters":
		i, u := o.Counts(false), o.Counts(true)
		k, y := o.Lost()
		var l []string
		for _, n := range []int64{i.Packets, i.Bytes, i.Wire, u.Packets, u.Bytes, u.Wire, k, y} {
			l = append(l, number(n))
		}
		return "in " + strings.Join(l[:3], " ") + " out " + strings.Join(l[3:6], " ") + " lost " + strings.Join(l[6:], " ")
	case "rates":
		return "in " + meter.Text(o.Rate(false)) + " " + meter.Text(o.Gain(false)) + " out " + meter.Text(o.Rate(true)) + " " + meter.Text(o.Gain(true))
	case "next":
		if at, e := o.Next(); e == api.OK {
			return number(at)
		}
		return "none"
	case "conf":
		return or(conf.Print(o.Conf()))
	}
	return number(map[string]int64{"queue": int64(o.Queue()), "failures": int64(o.Failures()), "now": o.Now()}[word])
}

// tried answers a line with a text.
func tried(o *daemon.Daemon, words []string, text string) string {
	switch words[0] {
	case "chat":
		l, e, at := chat.Parse(text)
		if e != api.OK {
			return faultAt(e, at)
		}
		return or(chat.Print(l))
	case "secret":
		l, e, at := secret.Parse(text)
		if e != api.OK {
			return faultAt(e, at)
		}
		return strconv.Itoa(len(l))
	case "options":
		c, e, at := conf.Over(o.Conf(), text)
		if e != api.OK {
			return faultAt(e, at)
		}
		return or(conf.Print(c))
	}
	l, e, at := filter.Parse(text)
	if e != api.OK {
		return faultAt(e, at)
	}
	if words[0] == "filter" {
		return or(filter.Print(l))
	}
	b, e := octet.Unhex(words[1])
	if e != api.OK {
		return fault(e)
	}
	if is, _ := filter.Holds(l, b); is {
		return "yes"
	}
	return "no"
}

// reckoned answers a line with digits alone.
func reckoned(word, digits string) string {
	b, e := octet.Unhex(digits)
	if e != api.OK {
		return fault(e)
	}
	switch word {
	case "md5":
		sum := md5.Sum(b)
		return octet.Hex(sum[:])
	case "fcs":
		return strconv.FormatInt(int64(fcs.Sum16(b))+0x10000, 16)[1:]
	}
	f, e := hdlc.Parse(b, true, true)
	return or(strconv.Itoa(f.Proto)+" "+octet.Hex(f.Info), e)
}

// line draws one.
func (d *chance) line() string {
	digits := func() string {
		return one(d, "", "45", "0x", "4", "ff03c02101010004", "2145", "zz", hexOf(d.packet()), strings.ToUpper(hexOf(d.packet())))
	}
	blank := func() string { return one(d, " ", " ", " ", "\t", "  ", "\t ", "") }
	rest := func() string {
		return one(d, "", "ip or ip6", "tcp and", "tcp  and\tnot (udp or port 5)", "ip6", "x", "'' ATZ OK", "ABORT a '' b-c-d \\c", "'", "alice mill x", "alice mill", "mru 600", "mru 1", "idle 5\nnodemand", "name \"a b\" # c", "host 1.2.3.4", "\"", "a\x00", "\xff", strings.Repeat("not ", 31)+"ip", strings.Repeat("a", 1030))
	}
	word := one(d, "status", "why", "addrs", "who", "counters", "rates", "queue", "failures", "now", "next", "conf", "filter", "tells", "chat", "secret", "options", "md5", "fcs", "frame", "filter", "tells", "chat", "secret", "options", "md5", "fcs", "frame", "foo", "", "Status", "nowx")
	s := blank() + word + blank()
	switch {
	case word == "tells" && d.next(4) > 0:
		s += digits() + " " + rest()
	case word == "md5" || word == "fcs" || word == "frame" || d.next(9) == 0:
		s += digits()
	case d.next(20) > 0 && strings.Contains(" filter tells chat secret options ", " "+word+" "):
		s += rest()
	}
	return s + blank()
}

func TestLinesAreTheLayersCalls(t *testing.T) {
	met := map[string]int{}
	for seed := range chance(500) {
		d := seed + 3
		w := d.world(t)
		for range 60 {
			w.Do(d.act(w))
			k := w.ends[d.next(2)].desk
			for range 3 {
				line := d.line()
				want := asked(k.daemon, line)
				says(t, k, line, want)
				met[strings.SplitN(want+"  ", " ", 3)[0]]++
			}
		}
		if t.Failed() {
			return
		}
	}
	for _, word := range []string{"policy", "in", "error", "none", "yes", "no", "-", "", "10.0.0.1", "alice", "failed"} {
		if met[word] < 20 {
			t.Error(word, met[word])
		}
	}
}

// P30.7

func TestLinesChangeNothing(t *testing.T) {
	for seed := range chance(100) {
		d, e := seed+1, seed+1
		v, w := d.world(t), e.world(t)
		lines := seed + 1000
		for range 60 {
			x := d.act(v)
			e.act(w)
			if x.Kind == Line {
				x.Text = one(&d, "up", "down")
				e = d
			}
			got, err := v.Do(x)
			want, wrong := w.Do(x)
			if err != wrong || !sameOuts(got, want) {
				t.Fatal(x, got, err, want, wrong)
			}
			for range 5 {
				if _, l := v.ends[lines.next(2)].desk.Line(lines.line()); len(l) != 0 {
					t.Fatal(l)
				}
			}
		}
		same(t, v, w)
	}
}

// P1

func TestNothingPanics(t *testing.T) {
	numbers := []int64{math.MinInt64, -1, 0, 1, 2, 255, api.MaxTime, api.MaxTime + 1, math.MaxInt64}
	for seed := range chance(300) {
		d := seed + 5
		text := func() string {
			b := make([]byte, d.next(40))
			for i := range b {
				b[i] = byte(d.next(one(&d, 128, 256)))
			}
			return string(b)
		}
		if k, e, _, _ := New(text(), text(), uint64(d)); (k == nil) == (e == api.OK) {
			t.Fatal(e)
		}
		w := d.world(t)
		k := w.ends[0].desk
		for range 40 {
			k.Line(text())
			k.Line(one(&d, "filter ", "tells ", "tells 45 ", "chat ", "secret ", "options ", "md5 ", "fcs ", "frame ", "frame "+hexOf([]byte(text()))) + text())
			k.Step(api.Event{Kind: d.next(9) - 1, B: bytes.Clone([]byte(text())), N: one(&d, numbers...), Text: text()})
			w.Do(Act{Kind: d.next(13) - 1, Side: d.next(4) - 1, N: one(&d, numbers...), B: []byte(text()), Text: text()})
		}
	}
}
