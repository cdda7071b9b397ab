package ipcp

import (
	"bytes"
	"math"
	"slices"
	"testing"

	"tether/api"
	"tether/conf"
	"tether/opt"
)

// serving answers a configuration that tells both servers of names, with a change.
func serving(change func(c *api.Conf)) api.Conf {
	c := conf.Default()
	c.Dns1, c.Dns2, c.MaxFailure = 0x08080808, 0x08080404, 3
	change(&c)
	return c
}

func asItIs(*api.Conf) {}

// asking answers an option that asks for an address.
func asking(kind int, n int64) api.Option {
	return one(kind, byte(n>>24), byte(n>>16), byte(n>>8), byte(n))
}

// judged checks one answer of Judge.
func judged(t *testing.T, what string, c api.Conf, give int64, l []api.Option, naks int, code int, want []api.Option) {
	t.Helper()
	before := opt.Without(l)
	got, answer := Judge(c, give, l, naks)
	if got != code || !opt.Same(answer, want) {
		t.Errorf("%s: %v: %d %v, not %d %v", what, l, got, answer, code, want)
	}
	if !opt.Same(l, before) {
		t.Error(what, "what was handed in is changed")
	}
}

const two = 0x0a000002 // 10.0.0.2

func isTwo(kind int) api.Option {
	return one(kind, 10, 0, 0, 2)
}

// P15.2

func TestJudgeAsInTheExamples(t *testing.T) {
	c := conf.Default()
	judged(t, "none yet", c, two, list(one(3, 0, 0, 0, 0)), 0, api.CConfNak, list(isTwo(3)))
	judged(t, "the given one", c, two, list(isTwo(3)), 0, api.CConfAck, list(isTwo(3)))
	judged(t, "compression", c, two, list(one(2, 0, 0x2d, 15, 1)), 0, api.CConfRej, list(one(2, 0, 0x2d, 15, 1)))
	judged(t, "nothing", c, two, nil, 0, api.CConfNak, list(isTwo(3)))
}

func TestJudgeRejectsTypesThatAreNone(t *testing.T) {
	for _, kind := range oddKinds() {
		for _, data := range [][]byte{nil, {0}, {0, 0, 0, 0}, {10, 0, 0, 2}, make([]byte, 300)} {
			o := one(kind, data...)
			judged(t, "alone", serving(asItIs), two, list(o), 0, api.CConfRej, list(o))
			judged(t, "among others", serving(asItIs), two, list(one(3, 0, 0, 0, 0), o, one(129, 1, 1, 1, 1), o), 9, api.CConfRej, list(o, o))
		}
	}
}

func TestJudgeRejectsWhatStandsTwice(t *testing.T) {
	c := serving(asItIs)
	for kind, good := range map[int]api.Option{3: isTwo(3), 129: one(129, 8, 8, 8, 8), 131: one(131, 8, 8, 4, 4)} {
		for _, first := range list(good, one(kind, 0, 0, 0, 0), one(kind, 1, 1, 1, 1)) {
			judged(t, "twice", c, two, list(first, good), 0, api.CConfRej, list(good))
			judged(t, "thrice", c, two, list(first, good, first), 0, api.CConfRej, list(good, first))
		}
		judged(t, "once", c, two, list(isTwo(3), good)[min(1, 3/kind):], 0, api.CConfAck, list(isTwo(3), good)[min(1, 3/kind):])
		judged(t, "the first one can not be either", c, two, list(one(kind, 1), good), 0, api.CConfRej, list(one(kind, 1), good))
	}
}

func TestJudgeRejectsDataOfAnotherLength(t *testing.T) {
	for n := range 300 {
		for _, kind := range []int{3, 129, 131} {
			if o := one(kind, bytes.Repeat([]byte{8}, n)...); n != 4 {
				judged(t, "length", serving(asItIs), two, list(o), 0, api.CConfRej, list(o))
				judged(t, "length", serving(asItIs), 0, list(o), 0, api.CConfRej, list(o))
			}
		}
	}
}

func TestJudgeRejectsWhatItDoesNotGive(t *testing.T) {
	zeros := list(one(3, 0, 0, 0, 0), one(129, 0, 0, 0, 0), one(131, 0, 0, 0, 0))
	ones := list(one(3, 1, 1, 1, 1), one(129, 1, 1, 1, 1), one(131, 1, 1, 1, 1))
	none1 := serving(func(c *api.Conf) { c.Dns1 = 0 })
	none2 := serving(func(c *api.Conf) { c.Dns2 = 0 })
	judged(t, "no address", serving(asItIs), 0, zeros, 0, api.CConfRej, zeros[:1])
	judged(t, "no first server", none1, two, zeros, 0, api.CConfRej, zeros[1:2])
	judged(t, "no second server", none2, two, zeros, 0, api.CConfRej, zeros[2:])
	judged(t, "nothing", conf.Default(), 0, zeros, 0, api.CConfRej, zeros)
	judged(t, "no servers, an address of its own", conf.Default(), 0, ones, 0, api.CConfRej, ones[1:])
	judged(t, "an address of its own", conf.Default(), 0, ones[:1], 0, api.CConfAck, ones[:1])
	for _, give := range noAddrs() {
		judged(t, "a give that is none", serving(asItIs), give, zeros, 0, api.CConfRej, zeros[:1])
		judged(t, "a give that is none", serving(asItIs), give, ones[:1], 0, api.CConfAck, ones[:1])
		judged(t, "a give that is none", serving(asItIs), give, nil, 0, api.CConfAck, nil)
	}
}

func TestJudgeNaks(t *testing.T) {
	c := serving(asItIs)
	d1, d2 := one(129, 8, 8, 8, 8), one(131, 8, 8, 4, 4)
	for i, k := range []struct {
		give    int64
		l, want []api.Option
	}{
		{two, list(one(3, 0, 0, 0, 0)), list(isTwo(3))},
		{two, list(one(3, 10, 0, 0, 3)), list(isTwo(3))},
		{two, list(one(3, 11, 0, 0, 2)), list(isTwo(3))},
		{1, list(isTwo(3)), list(one(3, 0, 0, 0, 1))},
		{math.MaxUint32, list(isTwo(3)), list(one(3, 255, 255, 255, 255))},
		{two, list(isTwo(3), one(129, 0, 0, 0, 0)), list(d1)},
		{two, list(isTwo(3), one(131, 0, 0, 0, 0)), list(d2)},
		{two, list(isTwo(3), one(129, 8, 8, 4, 4), one(131, 8, 8, 8, 8)), list(d1, d2)},
		{two, list(one(131, 1, 1, 1, 1), isTwo(3), one(129, 8, 8, 8, 9)), list(d2, d1)},
		{two, list(one(131, 1, 1, 1, 1), d1, one(3, 1, 1, 1, 1)), list(d2, isTwo(3))},
		{0, list(one(3, 1, 1, 1, 1), d1, one(131, 8, 8, 8, 8)), list(d2)},
	} {
		stood := list()
		for _, o := range k.l {
			if slices.ContainsFunc(k.want, func(w api.Option) bool { return w.Type == o.Type }) {
				stood = append(stood, o)
			}
		}
		what := "case " + string(rune('a'+i))
		for _, naks := range []int{math.MinInt, -1, 0, 1, 2} {
			judged(t, what, c, k.give, k.l, naks, api.CConfNak, k.want)
		}
		for _, naks := range []int{3, 4, math.MaxInt} {
			judged(t, what, c, k.give, k.l, naks, api.CConfRej, stood)
		}
	}
}

func TestJudgeTellsAnAddressThatWasNotAsked(t *testing.T) {
	c := serving(asItIs)
	d1, d2 := one(129, 8, 8, 8, 8), one(131, 8, 8, 4, 4)
	wrong := one(131, 1, 1, 1, 1)
	judged(t, "none", c, two, nil, 0, api.CConfNak, list(isTwo(3)))
	judged(t, "a right server", c, two, list(d1), 0, api.CConfNak, list(isTwo(3)))
	judged(t, "servers", c, two, list(wrong, d1), 0, api.CConfNak, list(d2, isTwo(3)))
	judged(t, "what can not be is told first", c, two, list(one(2)), 0, api.CConfRej, list(one(2)))
	for _, naks := range []int{math.MinInt, -1, 1, 2, 3, math.MaxInt} {
		judged(t, "told once", c, two, nil, naks, api.CConfAck, nil)
		judged(t, "told once", c, two, list(d2, d1), naks, api.CConfAck, list(d2, d1))
	}
	judged(t, "told once", c, two, list(wrong), 1, api.CConfNak, list(d2))
	judged(t, "none to tell", c, 0, list(wrong), 0, api.CConfNak, list(d2))
	judged(t, "none to tell", c, 0, nil, 0, api.CConfAck, nil)
	never := serving(func(c *api.Conf) { c.MaxFailure = 0 })
	judged(t, "no Nak may be", never, two, nil, 0, api.CConfAck, nil)
	judged(t, "no Nak may be", never, two, list(wrong), 0, api.CConfRej, list(wrong))
}

// model is Judge by its words, one list at a time.
func model(c api.Conf, give int64, l []api.Option, naks int) (int, []api.Option) {
	gives := func(kind int) int64 {
		return map[int]int64{3: give, 129: c.Dns1, 131: c.Dns2}[kind]
	}
	said := func(o api.Option) int64 {
		return int64(o.Data[0])<<24 | int64(o.Data[1])<<16 | int64(o.Data[2])<<8 | int64(o.Data[3])
	}
	var rejected, stood, others []api.Option
	for i, o := range l {
		twice := slices.ContainsFunc(l[:i], func(p api.Option) bool { return p.Type == o.Type })
		known := o.Type == 3 || o.Type == 129 || o.Type == 131
		if !known || twice || len(o.Data) != 4 ||
			o.Type != 3 && gives(o.Type) == 0 || o.Type == 3 && give == 0 && said(o) == 0 {
			rejected = append(rejected, o)
		}
	}
	if len(rejected) > 0 {
		return api.CConfRej, rejected
	}
	for _, o := range l {
		if n := gives(o.Type); n != 0 && said(o) != n {
			stood = append(stood, o)
			others = append(others, asking(o.Type, n))
		}
	}
	asked := slices.ContainsFunc(l, func(o api.Option) bool { return o.Type == 3 })
	if !asked && naks == 0 && give != 0 {
		others = append(others, asking(3, give))
	}
	switch {
	case naks < c.MaxFailure && len(others) > 0:
		return api.CConfNak, others
	case naks >= c.MaxFailure && len(stood) > 0:
		return api.CConfRej, stood
	}
	return api.CConfAck, l
}

// drawnConf answers a configuration, as far as it plays a part here, that is right.
func (d *draws) drawnConf() api.Conf {
	c := conf.Default()
	c.LocalIp, c.Dns1, c.Dns2 = d.address(), d.address(), d.address()
	c.UseDns = d.next(2) > 0
	c.MaxFailure = 1 + d.next(4)
	return c
}

// drawnRequest answers options, most of which can be.
func (d *draws) drawnRequest() []api.Option {
	var l []api.Option
	for _, kind := range []int{3, 129, 131} {
		if d.next(3) > 0 {
			l = slices.Insert(l, d.next(len(l)+1), asking(kind, d.address()))
		}
	}
	if d.next(4) == 0 {
		kind := []int{2, 3, 129, 130, 131}[d.next(5)]
		l = slices.Insert(l, d.next(len(l)+1), one(kind, make([]byte, 3+d.next(3))...))
	}
	return l
}

func TestJudgeIsAsItsWords(t *testing.T) {
	var d draws = 1
	codes := map[int]int{}
	for range 100000 {
		c, give, l, naks := d.drawnConf(), d.address(), d.drawnRequest(), d.next(6)
		code, want := model(c, give, l, naks)
		judged(t, "drawn", c, give, l, naks, code, want)
		codes[code]++
	}
	if codes[api.CConfAck] < 5000 || codes[api.CConfNak] < 5000 || codes[api.CConfRej] < 5000 {
		t.Error(codes)
	}
}

func TestJudgeAnswersNewMemory(t *testing.T) {
	for _, k := range []struct {
		l    []api.Option
		naks int
		code int
	}{
		{list(isTwo(3), one(129, 8, 8, 8, 8)), 0, api.CConfAck},
		{list(one(3, 0, 0, 0, 0), one(129, 0, 0, 0, 0)), 0, api.CConfNak},
		{list(one(129, 8, 8, 8, 8)), 0, api.CConfNak},
		{list(one(3, 0, 0, 0, 0), one(129, 0, 0, 0, 0)), 3, api.CConfRej},
		{list(one(2, 1, 2), one(3, 5)), 0, api.CConfRej},
	} {
		before := opt.Without(k.l)
		code, first := Judge(serving(asItIs), two, k.l, k.naks)
		_, second := Judge(serving(asItIs), two, k.l, k.naks)
		want := opt.Without(second)
		if code != k.code {
			t.Error(code)
		}
		for i := range first {
			_ = append(first[i].Data, 99, 99, 99, 99)
			clear(first[i].Data)
			first[i].Type = 77
		}
		if !opt.Same(k.l, before) || !opt.Same(second, want) {
			t.Error(k.code, "memory is shared")
		}
	}
}

// P15.7

func TestWhatIsAcknowledgedHasWhatIsGiven(t *testing.T) {
	var d draws = 2
	for range 100000 {
		c, give, l, naks := d.drawnConf(), d.address(), d.drawnRequest(), d.next(6)
		code, answer := Judge(c, give, l, naks)
		if fits, e := opt.Fits(code, l, answer); !fits || e != api.OK {
			t.Error(code, l, answer)
		}
		if code != api.CConfAck {
			continue
		}
		o, e := Read(answer)
		if e != api.OK || !has(o.Addr, give) && give != 0 || !has(o.Dns1, c.Dns1) || !has(o.Dns2, c.Dns2) {
			t.Error(c, give, o, e)
		}
		if give == 0 && o.Addr == 0 {
			t.Error("an address that is none")
		}
	}
}

// has tells whether what is asked, if it is, is what is given.
func has(asked, given int64) bool {
	return asked == -1 || asked == given
}

// P1

func TestJudgeOfAConfigurationThatIsNotRight(t *testing.T) {
	for _, n := range noAddrs() {
		for _, most := range []int{math.MinInt, -1, 0, math.MaxInt} {
			c := serving(func(c *api.Conf) { c.Dns1, c.Dns2, c.LocalIp, c.MaxFailure = n, n, n, most })
			for _, naks := range []int{math.MinInt, 0, math.MaxInt} {
				Judge(c, n, list(isTwo(3), one(129, 1, 2, 3, 4), one(131), one(7)), naks)
				Judge(c, n, list(isTwo(3), one(129, 1, 2, 3, 4)), naks)
			}
		}
	}
}
