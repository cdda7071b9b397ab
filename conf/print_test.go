package conf

import (
	"math"
	"strings"
	"testing"

	"tether/api"
)

// P5.4

func TestPrintOfEachField(t *testing.T) {
	for want, change := range map[string]func(c *api.Conf){
		"":                                 func(c *api.Conf) {},
		"name me\n":                        func(c *api.Conf) { c.Name = "me" },
		"name \"#me\"\n":                   func(c *api.Conf) { c.Name = "#me" },
		"name \"m e\"\n":                   func(c *api.Conf) { c.Name = "m e" },
		"remotename you\n":                 func(c *api.Conf) { c.Remote = "you" },
		"require-pap\n":                    func(c *api.Conf) { c.Require = api.MPap },
		"require-chap\n":                   func(c *api.Conf) { c.Require = api.MChap },
		"require-eap\n":                    func(c *api.Conf) { c.Require = api.MEap },
		"noaccept\n":                       func(c *api.Conf) { c.Accept = []int{} },
		"accept eap\n":                     func(c *api.Conf) { c.Accept = []int{api.MEap} },
		"accept pap chap\n":                func(c *api.Conf) { c.Accept = []int{api.MPap, api.MChap} },
		"accept chap pap eap\n":            func(c *api.Conf) { c.Accept = []int{api.MChap, api.MPap, api.MEap} },
		"mru 64\n":                         func(c *api.Conf) { c.Mru = 64 },
		"asyncmap 00000000\n":              func(c *api.Conf) { c.Asyncmap = 0 },
		"asyncmap 000a00bf\n":              func(c *api.Conf) { c.Asyncmap = 0xa00bf },
		"asyncmap fffffffe\n":              func(c *api.Conf) { c.Asyncmap = 0xfffffffe },
		"nopfc\n":                          func(c *api.Conf) { c.Pfc = false },
		"noaccomp\n":                       func(c *api.Conf) { c.Acfc = false },
		"nomagic\n":                        func(c *api.Conf) { c.Magic = false },
		"10.0.0.1:\n":                      func(c *api.Conf) { c.LocalIp = 0x0a000001 },
		":10.0.0.2\n":                      func(c *api.Conf) { c.RemoteIp = 0x0a000002 },
		"10.0.0.1:10.0.0.2\n":              func(c *api.Conf) { c.LocalIp, c.RemoteIp = 0x0a000001, 0x0a000002 },
		"ms-dns 1.2.3.4\n":                 func(c *api.Conf) { c.Dns1 = 0x01020304 },
		"ms-dns 1.2.3.4\nms-dns 0.0.0.1\n": func(c *api.Conf) { c.Dns1, c.Dns2 = 0x01020304, 1 },
		"usepeerdns\n":                     func(c *api.Conf) { c.UseDns = true },
		"ipv6\n":                           func(c *api.Conf) { c.Ipv6 = true },
		"ipv6id 0000:00ab:0000:0001\n":     func(c *api.Conf) { c.Ipv6, c.LocalId = true, 0xab00000001 },
		"deflate 8\n":                      func(c *api.Conf) { c.Deflate = 8 },
		"bsdcomp 15\n":                     func(c *api.Conf) { c.Bsd = 15 },
		"lcp-restart 1ms\n":                func(c *api.Conf) { c.Restart = 1 },
		"max-configure 1\n":                func(c *api.Conf) { c.MaxConfigure = 1 },
		"max-terminate 3\n":                func(c *api.Conf) { c.MaxTerminate = 3 },
		"max-failure 255\n":                func(c *api.Conf) { c.MaxFailure = 255 },
		"echo-interval 5000ms\n":           func(c *api.Conf) { c.EchoEvery = 5000 },
		"echo-failure 1\n":                 func(c *api.Conf) { c.EchoFail = 1 },
		"chap-interval 2147483648ms\n":     func(c *api.Conf) { c.Rechallenge = 1 << 31 },
		"idle 90000ms\n":                   func(c *api.Conf) { c.Idle = 90000 },
		"maxconnect 1ms\n":                 func(c *api.Conf) { c.Session = 1 },
		"holdoff 0ms\n":                    func(c *api.Conf) { c.Holdoff = 0 },
		"persist\n":                        func(c *api.Conf) { c.Persist = true },
		"demand\n":                         func(c *api.Conf) { c.Demand = true },
		"maxfail 0\n":                      func(c *api.Conf) { c.Maxfail = 0 },
		"filter tcp\n":                     func(c *api.Conf) { c.Filter = "tcp" },
		"filter \"a \\\"\\\\\tb\"\n":       func(c *api.Conf) { c.Filter = "a \"\\\tb" },
		"connect \"'' ATZ\"\n":             func(c *api.Conf) { c.Chat = "'' ATZ" },
	} {
		if s, e := Print(changed(change)); s != want || e != api.OK {
			t.Errorf("%q: %q %d", want, s, e)
		}
	}
}

func TestPrintOfAllFields(t *testing.T) {
	c := api.Conf{
		Name: "n", Remote: "r", Require: api.MChap, Accept: []int{api.MPap}, Mru: 64, LocalIp: 1, RemoteIp: 2, Dns1: 3, Dns2: 4, UseDns: true, Ipv6: true, LocalId: 5,
		Deflate: 9, Bsd: 10, Restart: 11, MaxConfigure: 12, MaxTerminate: 13, MaxFailure: 14, EchoEvery: 15, EchoFail: 16, Rechallenge: 17, Idle: 18, Session: 19, Holdoff: 20,
		Persist: true, Demand: true, Maxfail: 21, Filter: "f", Chat: "c",
	}
	want := `name n
remotename r
require-chap
accept pap
mru 64
asyncmap 00000000
nopfc
noaccomp
nomagic
0.0.0.1:0.0.0.2
ms-dns 0.0.0.3
ms-dns 0.0.0.4
usepeerdns
ipv6id 0000:0000:0000:0005
deflate 9
bsdcomp 10
lcp-restart 11ms
max-configure 12
max-terminate 13
max-failure 14
echo-interval 15ms
echo-failure 16
chap-interval 17ms
idle 18ms
maxconnect 19ms
holdoff 20ms
persist
demand
maxfail 21
filter f
connect c
`
	if s, e := Print(c); s != want || e != api.OK {
		t.Error(s, e)
	}
	if got := parsed(t, want); !Same(got, c) {
		t.Error(got)
	}
}

func TestPrintRefuses(t *testing.T) {
	for _, w := range wrongs {
		c := changed(w.spoil)
		if c.Filter == "" {
			c.Filter = "\n"
		}
		if s, e := Print(c); s != "" || e != api.ErrValue {
			t.Error(w.word, s, e)
		}
	}
	long := strings.Repeat("x", 1024)
	for i, c := range []struct {
		filter, chat string
		e            api.Errno
	}{
		{"\n", "", api.ErrForm},
		{"", "a\x00", api.ErrForm},
		{"a\rb", "", api.ErrForm},
		{"\x1f", "\x1f", api.ErrForm},
		{long, "\n", api.ErrForm},
		{"\n", long, api.ErrForm},
		{long, "", api.ErrSize},
		{"", long, api.ErrSize},
		{long[:1018], "", api.ErrSize},
		{long[:1017], "", api.OK},
		{"", long[:1017], api.ErrSize},
		{"", long[:1016], api.OK},
		{long[:1014] + " ", "", api.OK},
		{long[:1015] + " ", "", api.ErrSize},
		{" " + strings.Repeat("\"", 507), "", api.OK},
		{" " + strings.Repeat("\"", 508), "", api.ErrSize},
		{long[:1017], long[:1016], api.OK},
	} {
		conf := changed(func(d *api.Conf) { d.Filter, d.Chat = c.filter, c.chat })
		s, e := Print(conf)
		if e != c.e || e != api.OK && s != "" {
			t.Error(i, e, len(s))
		}
		if again, ae, _ := Parse(s); e == api.OK && (ae != api.OK || !Same(again, conf)) {
			t.Error(i, s, ae)
		}
	}
}

func TestPrintLeavesWhatIsHandedIn(t *testing.T) {
	c := changed(func(c *api.Conf) { c.Accept, c.LocalIp = []int{3, 1}, math.MaxUint32 })
	d := c
	d.Accept = []int{3, 1}
	Print(c)
	Right(c)
	if !Same(c, d) {
		t.Error(c)
	}
}

// P5.6

func TestParseOfAPrintIsThat(t *testing.T) {
	var d draws = 10
	for range 3000 {
		c := d.conf()
		if e, word := Right(c); e != api.OK {
			t.Fatal(c, word)
		}
		s, e := Print(c)
		if e != api.OK {
			t.Fatal(c, e)
		}
		if again, ae, at := Parse(s); ae != api.OK || at != 0 || !Same(again, c) {
			t.Fatalf("%v: %q: %v %d %d", c, s, again, ae, at)
		}
		if twice, e := Print(parsed(t, s)); twice != s || e != api.OK {
			t.Fatalf("%q: %q", s, twice)
		}
	}
}
