package conf

import (
	"errors"
	"math"
	"slices"
	"strings"
	"testing"

	"tether/api"
	"tether/spell"
)

// parsed answers the configuration of a file that is right.
func parsed(t *testing.T, s string) api.Conf {
	t.Helper()
	c, e, at := Parse(s)
	if e != api.OK || at != 0 {
		t.Errorf("%q: %d %d", s, e, at)
	}
	return c
}

func refused(t *testing.T, s string, e api.Errno, at int) {
	t.Helper()
	if c, got, line := Parse(s); got != e || line != at || !Same(c, api.Conf{}) {
		t.Errorf("%q: %d, line %d, instead of %d, line %d", s, got, line, e, at)
	}
}

// changed answers Default, changed.
func changed(change func(c *api.Conf)) api.Conf {
	c := Default()
	change(&c)
	return c
}

// P5.3

func TestParseAsInTheExamples(t *testing.T) {
	want := changed(func(c *api.Conf) { c.Name, c.Mru, c.LocalIp, c.Idle = "me", 600, 0x0a000001, 90000 })
	if c := parsed(t, "name me\nmru 600 # short\n10.0.0.1:\nidle 90\n"); !Same(c, want) {
		t.Error(c)
	}
	refused(t, "mru 10", api.ErrValue, 0)
	refused(t, "\nmrru 5", api.ErrWord, 1)
	refused(t, "mru", api.ErrArg, 0)
	refused(t, "name \"a", api.ErrLine, 0)
	if c := parsed(t, ""); !Same(c, Default()) {
		t.Error(c)
	}
}

func TestEachWordSetsItsField(t *testing.T) {
	for s, want := range map[string]func(c *api.Conf){
		"name me":                        func(c *api.Conf) { c.Name = "me" },
		`name "a # b"`:                   func(c *api.Conf) { c.Name = "a # b" },
		"remotename you":                 func(c *api.Conf) { c.Remote = "you" },
		"require-pap":                    func(c *api.Conf) { c.Require = api.MPap },
		"require-chap":                   func(c *api.Conf) { c.Require = api.MChap },
		"require-eap":                    func(c *api.Conf) { c.Require = api.MEap },
		"require-eap\nnoauth":            func(c *api.Conf) {},
		"accept eap":                     func(c *api.Conf) { c.Accept = []int{api.MEap} },
		"accept pap chap":                func(c *api.Conf) { c.Accept = []int{api.MPap, api.MChap} },
		"accept pap eap chap":            func(c *api.Conf) { c.Accept = []int{api.MPap, api.MEap, api.MChap} },
		"noaccept":                       func(c *api.Conf) { c.Accept = nil },
		"noaccept\naccept pap":           func(c *api.Conf) { c.Accept = []int{api.MPap} },
		"mru 64":                         func(c *api.Conf) { c.Mru = 64 },
		"mru 16384":                      func(c *api.Conf) { c.Mru = 16384 },
		"asyncmap 0":                     func(c *api.Conf) { c.Asyncmap = 0 },
		"asyncmap a0000":                 func(c *api.Conf) { c.Asyncmap = 0xa0000 },
		"asyncmap fFFFfffe":              func(c *api.Conf) { c.Asyncmap = 0xfffffffe },
		"nopfc":                          func(c *api.Conf) { c.Pfc = false },
		"nopfc\npfc":                     func(c *api.Conf) {},
		"noaccomp":                       func(c *api.Conf) { c.Acfc = false },
		"noaccomp\naccomp":               func(c *api.Conf) {},
		"nomagic":                        func(c *api.Conf) { c.Magic = false },
		"nomagic\nmagic":                 func(c *api.Conf) {},
		"1.2.3.4:5.6.7.8":                func(c *api.Conf) { c.LocalIp, c.RemoteIp = 0x01020304, 0x05060708 },
		"1.2.3.4:":                       func(c *api.Conf) { c.LocalIp = 0x01020304 },
		":5.6.7.8":                       func(c *api.Conf) { c.RemoteIp = 0x05060708 },
		"1.2.3.4:\n:5.6.7.8":             func(c *api.Conf) { c.RemoteIp = 0x05060708 },
		":1.2.3.4\n0.0.0.0:":             func(c *api.Conf) {},
		"ms-dns 1.2.3.4":                 func(c *api.Conf) { c.Dns1 = 0x01020304 },
		"ms-dns 1.2.3.4\nms-dns 1.2.3.4": func(c *api.Conf) { c.Dns1, c.Dns2 = 0x01020304, 0x01020304 },
		"usepeerdns":                     func(c *api.Conf) { c.UseDns = true },
		"ipv6":                           func(c *api.Conf) { c.Ipv6 = true },
		"ipv6id 0:0:1:2":                 func(c *api.Conf) { c.Ipv6, c.LocalId = true, 0x10002 },
		"ipv6id a:b:c:d\nipv6":           func(c *api.Conf) { c.Ipv6, c.LocalId = true, 0x000a000b000c000d },
		"ipv6\nnoipv6":                   func(c *api.Conf) {},
		"ipv6id 0:0:1:2\nnoipv6":         func(c *api.Conf) {},
		"deflate 8":                      func(c *api.Conf) { c.Deflate = 8 },
		"deflate 15":                     func(c *api.Conf) { c.Deflate = 15 },
		"deflate 9\nnodeflate":           func(c *api.Conf) {},
		"bsdcomp 9":                      func(c *api.Conf) { c.Bsd = 9 },
		"bsdcomp 15":                     func(c *api.Conf) { c.Bsd = 15 },
		"bsdcomp 9\nnobsdcomp":           func(c *api.Conf) {},
		"lcp-restart 1ms":                func(c *api.Conf) { c.Restart = 1 },
		"lcp-restart 5":                  func(c *api.Conf) { c.Restart = 5000 },
		"max-configure 255":              func(c *api.Conf) { c.MaxConfigure = 255 },
		"max-terminate 1":                func(c *api.Conf) { c.MaxTerminate = 1 },
		"max-failure 9":                  func(c *api.Conf) { c.MaxFailure = 9 },
		"echo-interval 5":                func(c *api.Conf) { c.EchoEvery = 5000 },
		"echo-failure 255":               func(c *api.Conf) { c.EchoFail = 255 },
		"chap-interval 7s":               func(c *api.Conf) { c.Rechallenge = 7000 },
		"idle 10":                        func(c *api.Conf) { c.Idle = 10000 },
		"maxconnect 11ms":                func(c *api.Conf) { c.Session = 11 },
		"holdoff 0":                      func(c *api.Conf) { c.Holdoff = 0 },
		"persist":                        func(c *api.Conf) { c.Persist = true },
		"persist\nnopersist":             func(c *api.Conf) {},
		"demand":                         func(c *api.Conf) { c.Demand = true },
		"demand\nnodemand":               func(c *api.Conf) {},
		"maxfail 0":                      func(c *api.Conf) { c.Maxfail = 0 },
		"maxfail 255":                    func(c *api.Conf) { c.Maxfail = 255 },
		"filter tcp":                     func(c *api.Conf) { c.Filter = "tcp" },
		`filter "not \"\\ a"`:            func(c *api.Conf) { c.Filter = `not "\ a` },
		"filter tcp\nfilter \"\"":        func(c *api.Conf) {},
		`connect "'' ATZ"`:               func(c *api.Conf) { c.Chat = "'' ATZ" },
		"connect \"\t\"":                 func(c *api.Conf) { c.Chat = "\t" },
		"mru 70\nmru 80":                 func(c *api.Conf) { c.Mru = 80 },
		`"mru" "80"`:                     func(c *api.Conf) { c.Mru = 80 },
		`"1.2.3.4:"`:                     func(c *api.Conf) { c.LocalIp = 0x01020304 },
	} {
		if c := parsed(t, s); !Same(c, changed(want)) {
			t.Errorf("%q: %v", s, c)
		}
	}
}

func TestWordsWithTooFewValuesOrTooMany(t *testing.T) {
	c := Default()
	for word, o := range table(&c) {
		if word == ends {
			word = "1.2.3.4:"
		}
		for n := range 6 {
			s := "# one\n" + word + strings.Repeat(" \"\"", n)
			if n < o.least || n > o.most {
				refused(t, s, api.ErrArg, 1)
			} else if _, e, _ := Parse(s); e == api.ErrArg || e == api.ErrWord {
				t.Error(s, e)
			}
		}
	}
	for s, values := range map[string]int{
		"name": 1, "remotename": 1, "require-pap": 0, "require-chap": 0, "require-eap": 0, "noauth": 0, "noaccept": 0, "mru": 1, "asyncmap": 1, "pfc": 0, "nopfc": 0,
		"accomp": 0, "noaccomp": 0, "magic": 0, "nomagic": 0, "1.2.3.4:": 0, ":": 0, "x:y": 0, "ms-dns": 1, "usepeerdns": 0, "ipv6": 0, "noipv6": 0, "ipv6id": 1,
		"deflate": 1, "nodeflate": 0, "bsdcomp": 1, "nobsdcomp": 0, "lcp-restart": 1, "max-configure": 1, "max-terminate": 1, "max-failure": 1, "echo-interval": 1,
		"echo-failure": 1, "chap-interval": 1, "idle": 1, "maxconnect": 1, "holdoff": 1, "persist": 0, "nopersist": 0, "demand": 0, "nodemand": 0, "maxfail": 1, "filter": 1, "connect": 1,
	} {
		for n := range 4 {
			if n != values {
				refused(t, s+strings.Repeat(" x", n), api.ErrArg, 0)
			}
		}
	}
	refused(t, "accept", api.ErrArg, 0)
	refused(t, "accept pap chap eap pap", api.ErrArg, 0)
	refused(t, "accept a b c d", api.ErrArg, 0)
}

func TestWordsThatAreNoneOfTheTable(t *testing.T) {
	for _, s := range []string{
		`""`, "mrru 5", "MRU 600", "Name me", "name=me", "mr", "no", "nono", "noname me", "noipv6id", "nousepeerdns", "require-", "require-x", "auth", "ip", "ip 1.2.3.4", "nomru", "noidle", "-", "10.0.0.1", "LOCAL", "a b c d", "\"name me\"", "nolcp-restart",
	} {
		refused(t, s, api.ErrWord, 0)
	}
}

func TestValuesThatCanNotBe(t *testing.T) {
	for _, s := range []string{
		`name ""`, `name "\""`, `name "a\\"`, `name "a	b"`, "name a\\b", "name \x7f", "name ä", "name " + strings.Repeat("n", 65),
		`remotename ""`, "remotename a\\", "remotename \x80",
		"accept x", "accept pap pap", "accept pap chap pap", "accept PAP", `accept ""`, `accept chap ""`, "accept none", "accept 1", "accept pap,chap",
		"asyncmap 123456789", "asyncmap 000000000", "asyncmap 0x0", "asyncmap g", `asyncmap ""`, "asyncmap -1", "asyncmap +1", "asyncmap 1_0",
		":", "a:b", "1.2.3.4:x", "x:1.2.3.4", "1.2.3.4:5.6.7.8:", "1.2.3.4::5.6.7.8", "::", "1.2.3:", ":256.0.0.1", "LOCAL:REMOTE", "1:2:3:4", "mru:600", "\"1.2.3.4 :\"",
		"ms-dns 0.0.0.0", "ms-dns 000.0.0.0", "ms-dns 1.2.3", "ms-dns x", "ms-dns 1.2.3.4:",
		"ipv6id 0:0:0:0", "ipv6id 1:2:3", "ipv6id ::1", "ipv6id 0:0:0:0:1", "ipv6id 12345:0:0:0", "ipv6id x",
		"deflate 0", "deflate 7", "deflate 16", "deflate x", "bsdcomp 0", "bsdcomp 8", "bsdcomp 16",
		"lcp-restart 0", "lcp-restart 0ms", "lcp-restart 2147484", "lcp-restart 2147483649ms", "lcp-restart x",
		"max-configure 0", "max-configure 256", "max-terminate 0", "max-terminate 256", "max-failure 0", "max-failure 256", "max-failure 5s", "echo-failure 0", "echo-failure 256",
		"echo-interval 2147484", "chap-interval x", "maxconnect -1", "holdoff 1m", "maxfail 256", "maxfail -1", "maxfail x",
	} {
		refused(t, s, api.ErrValue, 0)
		refused(t, "# first\n\n"+s+"\nmrru", api.ErrValue, 2)
	}
	refused(t, "ms-dns 1.2.3.4\nms-dns 1.2.3.4\nms-dns 1.2.3.4", api.ErrValue, 2)
}

func TestTheFirstFaultIsTold(t *testing.T) {
	refused(t, "mrru \"", api.ErrLine, 0)
	refused(t, "mru x y \"", api.ErrLine, 0)
	refused(t, "mrru x y", api.ErrWord, 0)
	refused(t, "mru x y", api.ErrArg, 0)
	refused(t, "x:y z", api.ErrArg, 0)
	refused(t, "mru 10\nname \"", api.ErrValue, 0)
	refused(t, "name \"\nmru 10", api.ErrLine, 0)
	refused(t, "mru 600\n\n# x\nmru\nmrru", api.ErrArg, 3)
	refused(t, strings.Repeat("\n", 65530)+"mru 1", api.ErrValue, 65530)
	refused(t, "mru 600\x00", api.ErrLine, 0)
	refused(t, "mru\x00600", api.ErrLine, 0)
}

func TestLinesAndTextsOfTheGreatestSize(t *testing.T) {
	long := "filter " + strings.Repeat("f", 1017)
	if c := parsed(t, "mru 600\n"+long+"\n"); len(c.Filter) != 1017 || c.Mru != 600 {
		t.Error(c)
	}
	refused(t, "mru 600\n"+long+"f\n", api.ErrLine, 1)
	refused(t, "mru 600\n"+long+"\r", api.ErrLine, 1)
	refused(t, "#"+strings.Repeat("x", 1024), api.ErrLine, 0)
	text := strings.Repeat("mru 600\n", api.MaxText/8)
	if c := parsed(t, text); c.Mru != 600 {
		t.Error(c)
	}
	refused(t, text+"\n", api.ErrSize, -1)
	refused(t, "mrru\n"+text, api.ErrSize, -1)
}

func TestOverRefusesWhatIsNotRight(t *testing.T) {
	long := strings.Repeat("\n", api.MaxText+1)
	for _, w := range wrongs {
		c := Default()
		w.spoil(&c)
		for _, s := range []string{"", "mrru", long} {
			if out, e, at := Over(c, s); e != api.ErrValue || at != -1 || !Same(out, api.Conf{}) {
				t.Error(w.word, e, at, out)
			}
		}
	}
	if c, e, at := Over(Default(), long); e != api.ErrSize || at != -1 || !Same(c, api.Conf{}) {
		t.Error(e, at, c)
	}
}

func TestOverBeginsWithTheOtherOne(t *testing.T) {
	var d draws = 5
	for range 2000 {
		c := d.conf()
		want := c
		want.Mru, want.Ipv6, want.LocalId, want.LocalIp, want.RemoteIp = 77, false, 0, 0, 1
		if got, e, at := Over(c, "mru 77\nnoipv6\n:0.0.0.1"); e != api.OK || at != 0 || !Same(got, want) {
			t.Fatal(c, got, e, at)
		}
		if got, e, at := Over(c, ""); e != api.OK || at != 0 || !Same(got, c) {
			t.Fatal(c, got, e, at)
		}
		if got, e, _ := Over(c, "ms-dns 9.9.9.9"); (e == api.ErrValue) != (c.Dns2 != 0) || e == api.OK && (c.Dns1 == 0) != (got.Dns1 == 0x09090909 && got.Dns2 == 0) {
			t.Fatal(c, got, e)
		}
	}
}

func TestAnswersShareNoMemory(t *testing.T) {
	c := Default()
	methods := []int{api.MPap, api.MEap, 99}
	c.Accept = methods[:2]
	for _, s := range []string{"", "mru 600", "accept chap", "noaccept", "accept x"} {
		got, _, _ := Over(c, s)
		_ = append(got.Accept, 7)
		for i := range got.Accept {
			got.Accept[i] = 7
		}
	}
	if !slices.Equal(methods, []int{api.MPap, api.MEap, 99}) {
		t.Error("what was handed in is changed:", methods)
	}
	got, _, _ := Over(c, "")
	methods[0] = 5
	if got.Accept[0] != api.MPap {
		t.Error("a list that was handed in is kept")
	}
}

// The ways of the chapter.

func TestAFaultWrapsWhatIsWrong(t *testing.T) {
	c := Default()
	for s, want := range map[string]error{"\n\nname \"": errLine, "\n\nx": errWord, "\n\nmru": errArg, "\n\nmru 1": errValue} {
		err := read(s, table(&c))
		var f *spell.Fault
		if !errors.Is(err, want) || !errors.As(err, &f) || f.Line != 2 || err.Error() != "line 2: "+want.Error() {
			t.Error(s, err)
		}
	}
	if err := read("mru 600", table(&c)); err != nil {
		t.Error(err)
	}
}

// lines are some that are right, and some that may be, or are not.
func (d *draws) line() string {
	return among(d,
		"", "#", " \t\r", "# name x", "name a", "name \"b c\"", "remotename r", "require-pap", "require-eap", "noauth", "accept pap", "accept eap chap pap", "noaccept",
		"mru 600", "mru 1000", "asyncmap 0", "nopfc", "pfc", "noaccomp", "accomp", "magic", "nomagic", "1.2.3.4:", ":5.6.7.8", "9.9.9.9:8.8.8.8", "ms-dns 1.1.1.1", "ms-dns 2.2.2.2", "usepeerdns",
		"ipv6", "noipv6", "ipv6id 1:2:3:4", "deflate 9", "nodeflate", "bsdcomp 12", "nobsdcomp", "lcp-restart 1", "max-configure 3", "max-terminate 4", "max-failure 5", "echo-interval 6", "echo-failure 7",
		"chap-interval 8", "idle 9", "maxconnect 10", "holdoff 11", "persist", "nopersist", "demand", "nodemand", "maxfail 12", "filter tcp", "filter \"udp or tcp\"", "connect x", "connect \"\"",
	)
}

func (d *draws) file(below int) string {
	l := make([]string, d.next(below))
	for i := range l {
		l[i] = d.line()
	}
	return strings.Join(l, "\n")
}

// P5.7

func TestOverOfTwoFilesIsOverOfTheSecondOnTopOfTheFirst(t *testing.T) {
	var d draws = 6
	for range 5000 {
		c, a, b := d.conf(), d.file(12), d.file(12)
		first, e, at := Over(c, a)
		want := first
		if e == api.OK {
			if want, e, at = Over(first, b); e != api.OK {
				at += strings.Count(a+"\n", "\n")
			}
		}
		if got, ge, gat := Over(c, a+"\n"+b); ge != e || gat != at || !Same(got, want) {
			t.Fatalf("%q %q: %d %d %v instead of %d %d %v", a, b, ge, gat, got, e, at, want)
		}
	}
}

// P5.8

func TestBlanksRemarksAndEmptyLinesChangeNothing(t *testing.T) {
	var d draws = 7
	for range 3000 {
		file := d.file(12)
		want, e, _ := Parse(file)
		var l []string
		for _, line := range strings.Split(file, "\n") {
			words, _ := Words(line)
			for i, w := range words {
				words[i], _ = Quote(w)
			}
			for range d.next(3) {
				l = append(l, among(&d, "", " ", "# \"", "\t#x\x01", "\r"))
			}
			l = append(l, among(&d, "", " ", "\t\r")+strings.Join(words, among(&d, " ", "\t", " \r "))+among(&d, "", " ", "\r", " # mru 1", "\t#\\ \""))
		}
		if got, ge, _ := Parse(strings.Join(l, "\n")); ge != e || !Same(got, want) {
			t.Fatalf("%q: %d %v instead of %d %v", l, ge, got, e, want)
		}
		if got, ge, _ := Parse(file + "\n"); ge != e || !Same(got, want) {
			t.Fatalf("%q with an end", file)
		}
	}
}

// P5.9, P1

func TestWhatParseAnswersIsRight(t *testing.T) {
	var d draws = 8
	right := 0
	for range 8000 {
		b := []byte(d.file(6))
		for range d.next(3) {
			if len(b) > 0 {
				b[d.next(len(b))] = among(&d, byte(d.next(256)), ' ', '"', '\n', '0', ':')
			}
		}
		c, e, at := Parse(string(b))
		if e != api.OK {
			if !Same(c, api.Conf{}) || at < 0 || at > strings.Count(string(b), "\n") || !slices.Contains([]api.Errno{api.ErrLine, api.ErrWord, api.ErrArg, api.ErrValue}, e) {
				t.Fatalf("%q: %d %d %v", b, e, at, c)
			}
			continue
		}
		right++
		if e, word := Right(c); e != api.OK || at != 0 {
			t.Fatalf("%q: %s", b, word)
		}
		s, e := Print(c)
		if again, ae, _ := Parse(s); e != api.OK || ae != api.OK || !Same(again, c) {
			t.Fatalf("%q: %q", b, s)
		}
	}
	if right < 500 {
		t.Error("too few are right:", right)
	}
}

func TestParseEndsAtAnything(t *testing.T) {
	var d draws = 9
	for range 5000 {
		b := make([]byte, d.next(80))
		for i := range b {
			b[i] = byte(d.next(256))
		}
		Parse(string(b))
	}
	for _, s := range []string{strings.Repeat("\"", api.MaxText), strings.Repeat(":", api.MaxText), strings.Repeat(" \n", api.MaxText/2), strings.Repeat("a", 1<<22)} {
		Parse(s)
		Words(s)
		Quote(s)
		Ip(s)
		Id(s)
	}
	Addr(math.MinInt64)
}
