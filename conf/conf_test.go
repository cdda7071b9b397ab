package conf

import (
	"math"
	"reflect"
	"strings"
	"testing"

	"tether/api"
)

// draws is a chain of numbers that are the same at each run.
type draws uint64

func (d *draws) next(below int) int {
	*d = *d*6364136223846793005 + 1442695040888963407
	return int(uint64(*d)>>33) % below
}

// among draws one of some.
func among[T any](d *draws, some ...T) T {
	return some[d.next(len(some))]
}

// span draws a number from least on; the bounds often.
func (d *draws) span(least int64, most int64) int64 {
	return among(d, least, most, least+int64(d.next(1<<20))%(most-least+1))
}

func (d *draws) small(least, most int) int {
	return int(d.span(int64(least), int64(most)))
}

// text draws bytes that can be quoted, below so many.
func (d *draws) text(below int) string {
	b := make([]byte, d.next(below))
	for i := range b {
		b[i] = among(d, '"', '\\', '#', ' ', '\t', ':', byte(33+d.next(223)), byte(33+d.next(223)))
	}
	return string(b)
}

func (d *draws) name() string {
	b := make([]byte, 1+d.next(api.MaxName))
	for i := range b {
		b[i] = byte(32 + d.next(95))
		if b[i] == '"' || b[i] == '\\' {
			b[i] = '#'
		}
	}
	return string(b)
}

func (d *draws) flag() bool {
	return d.next(2) == 0
}

// conf draws a configuration that is right; about half of its fields are as they are left out.
func (d *draws) conf() api.Conf {
	c := Default()
	addr := func() int64 { return d.span(0, math.MaxUint32) }
	for _, set := range []func(){
		func() { c.Name = d.name() },
		func() { c.Remote = d.name() },
		func() { c.Require = d.next(4) },
		func() {
			c.Accept = among(d, nil, []int{}, []int{3}, []int{1, 2}, []int{2, 3, 1}, []int{3, 2, 1}, []int{1, 3})
		},
		func() { c.Mru = d.small(api.MinMru, api.MaxMru) },
		func() { c.Asyncmap = d.span(0, math.MaxUint32) },
		func() { c.Pfc = false },
		func() { c.Acfc = false },
		func() { c.Magic = false },
		func() { c.LocalIp = addr() },
		func() { c.RemoteIp = addr() },
		func() { c.Dns1 = 1 + addr()/2 },
		func() {
			if c.Dns1 != 0 {
				c.Dns2 = addr()
			}
		},
		func() { c.UseDns = true },
		func() { c.Ipv6 = true },
		func() {
			if c.Ipv6 {
				c.LocalId = among(d, 0, 1, math.MaxUint64, uint64(d.next(1<<30))<<uint(d.next(40)))
			}
		},
		func() { c.Deflate = d.small(8, 15) },
		func() { c.Bsd = d.small(9, 15) },
		func() { c.Restart = d.span(1, api.MaxSpan) },
		func() { c.MaxConfigure = d.small(1, 255) },
		func() { c.MaxTerminate = d.small(1, 255) },
		func() { c.MaxFailure = d.small(1, 255) },
		func() { c.EchoEvery = d.span(0, api.MaxSpan) },
		func() { c.EchoFail = d.small(1, 255) },
		func() { c.Rechallenge = d.span(0, api.MaxSpan) },
		func() { c.Idle = d.span(0, api.MaxSpan) },
		func() { c.Session = d.span(0, api.MaxSpan) },
		func() { c.Holdoff = d.span(0, api.MaxSpan) },
		func() { c.Persist = true },
		func() { c.Demand = true },
		func() { c.Maxfail = d.small(0, 255) },
		func() { c.Filter = d.text(300) },
		func() { c.Chat = d.text(300) },
	} {
		if d.flag() {
			set()
		}
	}
	return c
}

// P5.1

func TestDefaultIsAsItIsLeftOut(t *testing.T) {
	want := api.Conf{
		Name: "tether", Remote: "", Require: 0, Accept: []int{api.MChap, api.MEap, api.MPap},
		Mru: 1500, Asyncmap: 0xffffffff, Pfc: true, Acfc: true, Magic: true,
		Restart: 3000, MaxConfigure: 10, MaxTerminate: 2, MaxFailure: 5, EchoFail: 3,
		Holdoff: 30000, Maxfail: 10,
	}
	if c := Default(); !reflect.DeepEqual(c, want) {
		t.Error(c)
	}
	Default().Accept[0] = 99
	if c := Default(); !reflect.DeepEqual(c, want) {
		t.Error("what is written into an answer is seen by a later one:", c)
	}
	if e, word := Right(want); e != api.OK || word != "" {
		t.Error(e, word)
	}
}

// wrongs are configurations that can not be, in the table's order, and the words of what is wrong.
var wrongs = []struct {
	word  string
	spoil func(c *api.Conf)
}{
	{"name", func(c *api.Conf) { c.Name = "" }},
	{"name", func(c *api.Conf) { c.Name = "a\"" }},
	{"name", func(c *api.Conf) { c.Name = strings.Repeat("n", 65) }},
	{"remotename", func(c *api.Conf) { c.Remote = "a\\" }},
	{"remotename", func(c *api.Conf) { c.Remote = "a\x7f" }},
	{"noauth", func(c *api.Conf) { c.Require = -1 }},
	{"noauth", func(c *api.Conf) { c.Require = 4 }},
	{"accept", func(c *api.Conf) { c.Accept = []int{0} }},
	{"accept", func(c *api.Conf) { c.Accept = []int{4} }},
	{"accept", func(c *api.Conf) { c.Accept = []int{1, 2, 1} }},
	{"accept", func(c *api.Conf) { c.Accept = []int{1, 2, 3, 1} }},
	{"accept", func(c *api.Conf) { c.Accept = make([]int, 1<<20) }},
	{"mru", func(c *api.Conf) { c.Mru = 63 }},
	{"mru", func(c *api.Conf) { c.Mru = 16385 }},
	{"asyncmap", func(c *api.Conf) { c.Asyncmap = -1 }},
	{"asyncmap", func(c *api.Conf) { c.Asyncmap = 1 << 32 }},
	{"ip", func(c *api.Conf) { c.LocalIp = -1 }},
	{"ip", func(c *api.Conf) { c.RemoteIp = 1 << 32 }},
	{"ms-dns", func(c *api.Conf) { c.Dns1 = -1 }},
	{"ms-dns", func(c *api.Conf) { c.Dns1, c.Dns2 = 1, 1<<32 }},
	{"ms-dns", func(c *api.Conf) { c.Dns1, c.Dns2 = 1, -1 }},
	{"ms-dns", func(c *api.Conf) { c.Dns2 = 1 }},
	{"ipv6id", func(c *api.Conf) { c.LocalId = 1 }},
	{"deflate", func(c *api.Conf) { c.Deflate = 7 }},
	{"deflate", func(c *api.Conf) { c.Deflate = 16 }},
	{"deflate", func(c *api.Conf) { c.Deflate = -1 }},
	{"bsdcomp", func(c *api.Conf) { c.Bsd = 8 }},
	{"bsdcomp", func(c *api.Conf) { c.Bsd = 16 }},
	{"lcp-restart", func(c *api.Conf) { c.Restart = 0 }},
	{"lcp-restart", func(c *api.Conf) { c.Restart = 1<<31 + 1 }},
	{"max-configure", func(c *api.Conf) { c.MaxConfigure = 0 }},
	{"max-configure", func(c *api.Conf) { c.MaxConfigure = 256 }},
	{"max-terminate", func(c *api.Conf) { c.MaxTerminate = 0 }},
	{"max-terminate", func(c *api.Conf) { c.MaxTerminate = 256 }},
	{"max-failure", func(c *api.Conf) { c.MaxFailure = 0 }},
	{"max-failure", func(c *api.Conf) { c.MaxFailure = 256 }},
	{"echo-interval", func(c *api.Conf) { c.EchoEvery = -1 }},
	{"echo-interval", func(c *api.Conf) { c.EchoEvery = 1<<31 + 1 }},
	{"echo-failure", func(c *api.Conf) { c.EchoFail = 0 }},
	{"echo-failure", func(c *api.Conf) { c.EchoFail = 256 }},
	{"chap-interval", func(c *api.Conf) { c.Rechallenge = -1 }},
	{"chap-interval", func(c *api.Conf) { c.Rechallenge = math.MaxInt64 }},
	{"idle", func(c *api.Conf) { c.Idle = -1 }},
	{"idle", func(c *api.Conf) { c.Idle = 1<<31 + 1 }},
	{"maxconnect", func(c *api.Conf) { c.Session = -1 }},
	{"maxconnect", func(c *api.Conf) { c.Session = math.MinInt64 }},
	{"maxconnect", func(c *api.Conf) { c.Session = 1<<31 + 1 }},
	{"holdoff", func(c *api.Conf) { c.Holdoff = -1 }},
	{"holdoff", func(c *api.Conf) { c.Holdoff = 1<<31 + 1 }},
	{"maxfail", func(c *api.Conf) { c.Maxfail = -1 }},
	{"maxfail", func(c *api.Conf) { c.Maxfail = 256 }},
	{"filter", func(c *api.Conf) { c.Filter = strings.Repeat("f", 1025) }},
	{"connect", func(c *api.Conf) { c.Chat = strings.Repeat("c", 1025) }},
}

func TestRightTellsTheWordOfWhatIsWrong(t *testing.T) {
	for i, w := range wrongs {
		c := Default()
		w.spoil(&c)
		if e, word := Right(c); e != api.ErrValue || word != w.word {
			t.Error(i, e, word, "instead of", w.word)
		}
	}
}

func TestRightTellsTheFirstWord(t *testing.T) {
	for i, w := range wrongs {
		for _, v := range wrongs[i+1:] {
			c := Default()
			w.spoil(&c)
			v.spoil(&c)
			if e, word := Right(c); w.word != v.word && (e != api.ErrValue || word != w.word) {
				t.Error(e, word, "instead of", w.word, "with", v.word)
			}
		}
	}
}

func TestRightTakesTheBounds(t *testing.T) {
	for i, set := range []func(c *api.Conf){
		func(c *api.Conf) { c.Name = "*" },
		func(c *api.Conf) { c.Name = " " },
		func(c *api.Conf) { c.Name = strings.Repeat("~", 64) },
		func(c *api.Conf) { c.Remote = "" },
		func(c *api.Conf) { c.Require = 3 },
		func(c *api.Conf) { c.Accept = nil },
		func(c *api.Conf) { c.Accept = []int{} },
		func(c *api.Conf) { c.Accept = []int{1, 2, 3} },
		func(c *api.Conf) { c.Mru = 64 },
		func(c *api.Conf) { c.Mru = 16384 },
		func(c *api.Conf) { c.Asyncmap = 0 },
		func(c *api.Conf) { c.LocalIp, c.RemoteIp = 1<<32-1, 1<<32-1 },
		func(c *api.Conf) { c.Dns1 = 1 },
		func(c *api.Conf) { c.Dns1, c.Dns2 = 1<<32-1, 1<<32-1 },
		func(c *api.Conf) { c.Ipv6 = true },
		func(c *api.Conf) { c.Ipv6, c.LocalId = true, math.MaxUint64 },
		func(c *api.Conf) { c.Deflate = 8 },
		func(c *api.Conf) { c.Deflate = 15 },
		func(c *api.Conf) { c.Bsd = 9 },
		func(c *api.Conf) { c.Bsd = 15 },
		func(c *api.Conf) { c.Restart = 1 },
		func(c *api.Conf) { c.Restart = 1 << 31 },
		func(c *api.Conf) { c.MaxConfigure, c.MaxTerminate, c.MaxFailure, c.EchoFail = 1, 1, 1, 1 },
		func(c *api.Conf) { c.MaxConfigure, c.MaxTerminate, c.MaxFailure, c.EchoFail = 255, 255, 255, 255 },
		func(c *api.Conf) { c.EchoEvery, c.Rechallenge, c.Idle, c.Session, c.Holdoff = 0, 0, 0, 0, 0 },
		func(c *api.Conf) {
			c.EchoEvery, c.Rechallenge, c.Idle, c.Session, c.Holdoff = 1<<31, 1<<31, 1<<31, 1<<31, 1<<31
		},
		func(c *api.Conf) { c.Maxfail = 0 },
		func(c *api.Conf) { c.Maxfail = 255 },
		func(c *api.Conf) { c.Filter, c.Chat = strings.Repeat("\n", 1024), strings.Repeat("\x00", 1024) },
	} {
		c := Default()
		set(&c)
		if e, word := Right(c); e != api.OK || word != "" {
			t.Error(i, e, word)
		}
	}
}

// P5.4

func TestSameLooksAtEachField(t *testing.T) {
	a := Default()
	if !Same(a, Default()) || !Same(api.Conf{}, api.Conf{Accept: []int{}}) {
		t.Error("the same are not the same")
	}
	fields := reflect.TypeFor[api.Conf]()
	for i := range fields.NumField() {
		b := Default()
		switch f := reflect.ValueOf(&b).Elem().Field(i); f.Kind() {
		case reflect.String:
			f.SetString(f.String() + "x")
		case reflect.Bool:
			f.SetBool(!f.Bool())
		case reflect.Uint64:
			f.SetUint(f.Uint() + 1)
		case reflect.Slice:
			b.Accept = []int{api.MEap, api.MChap, api.MPap}
		default:
			f.SetInt(f.Int() + 1)
		}
		if Same(a, b) || Same(b, a) {
			t.Error("another one is the same:", fields.Field(i).Name)
		}
	}
	b := Default()
	b.Accept = b.Accept[:2]
	if Same(a, b) || Same(b, a) {
		t.Error("fewer methods are the same")
	}
}

// P1

func TestRightAndPrintEndAtAnything(t *testing.T) {
	var d draws = 1
	edges := []int64{math.MinInt64, -1, 0, 1, 2, 3, 64, 255, 1 << 31, 1<<32 - 1, 1 << 32, math.MaxInt64}
	for range 5000 {
		var c api.Conf
		v := reflect.ValueOf(&c).Elem()
		for i := range v.NumField() {
			switch f := v.Field(i); f.Kind() {
			case reflect.String:
				f.SetString(strings.Repeat(among(&d, "", "a", "\n", "\"", "#\x80"), d.next(1200)))
			case reflect.Bool:
				f.SetBool(d.flag())
			case reflect.Uint64:
				f.SetUint(uint64(among(&d, edges...)))
			case reflect.Slice:
				c.Accept = among(&d, nil, []int{2}, []int{2, 2}, []int{-1}, []int{math.MaxInt, math.MinInt})
			default:
				f.SetInt(among(&d, edges...))
			}
		}
		e, word := Right(c)
		if (e == api.OK) != (word == "") || e != api.OK && e != api.ErrValue {
			t.Fatal(e, word)
		}
		if s, pe := Print(c); pe != api.OK && s != "" || e != api.OK && pe != e {
			t.Fatal(e, pe, s)
		}
		if out, oe, at := Over(c, "mru 600"); e != api.OK && (oe != e || at != -1 || !Same(out, api.Conf{})) {
			t.Fatal(e, oe, at, out)
		}
	}
}
