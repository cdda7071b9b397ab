package ccp

import (
	"bytes"
	"math"
	"slices"
	"testing"

	"tether/api"
	"tether/opt"
)

// judged checks one answer of Judge.
func judged(t *testing.T, what string, c api.Conf, l []api.Option, naks int, code int, want []api.Option) {
	t.Helper()
	before := opt.Without(l)
	got, answer := Judge(c, l, naks)
	if got != code || !opt.Same(answer, want) {
		t.Errorf("%s: %v: %d %v, not %d %v", what, l, got, answer, code, want)
	}
	if !opt.Same(l, before) {
		t.Error(what, "what was handed in is changed")
	}
}

// P22.2

func TestJudgeOfTheExample(t *testing.T) {
	judged(t, "too many bits", with(12, 0), list(one(26, 0x78, 0)), 0, api.CConfNak, list(one(26, 0x48, 0)))
}

func TestJudgeAcknowledges(t *testing.T) {
	judged(t, "nothing", with(0, 0), nil, 0, api.CConfAck, nil)
	judged(t, "nothing", with(12, 12), nil, math.MaxInt, api.CConfAck, nil)
	for bits := 8; bits <= 15; bits++ {
		for most := bits; most <= 15; most++ {
			judged(t, "deflate", with(most, 0), list(deflate(bits)), 0, api.CConfAck, list(deflate(bits)))
			if bits > 8 {
				judged(t, "bsd", with(0, most), list(bsdcomp(bits)), 0, api.CConfAck, list(bsdcomp(bits)))
				judged(t, "both", with(15, most), list(bsdcomp(bits), deflate(12)), 99, api.CConfAck, list(bsdcomp(bits), deflate(12)))
			}
		}
	}
}

func TestJudgeRejectsTypesThatAreNone(t *testing.T) {
	for _, kind := range oddKinds() {
		for _, data := range [][]byte{nil, {0x2c}, {0x78, 0}, make([]byte, 300)} {
			o := one(kind, data...)
			judged(t, "alone", with(15, 15), list(o), 0, api.CConfRej, list(o))
			judged(t, "among others", with(8, 9), list(deflate(15), o, bsdcomp(15), o), 9, api.CConfRej, list(o, o))
		}
	}
}

func TestJudgeRejectsWhatStandsTwice(t *testing.T) {
	for _, l := range [][]api.Option{list(deflate(9), deflate(10)), list(bsdcomp(9), bsdcomp(10))} {
		for _, first := range list(l[0], one(l[0].Type, bytes.Repeat([]byte{0xff}, len(l[0].Data))...)) {
			judged(t, "twice", with(15, 15), list(first, l[1]), 0, api.CConfRej, list(l[1]))
			judged(t, "thrice", with(15, 15), list(first, l[1], first), 0, api.CConfRej, list(l[1], first))
			judged(t, "another one between", with(15, 15), list(first, one(1), first), 0, api.CConfRej, list(one(1), first))
		}
		wrong := one(l[0].Type, 1, 2, 3)
		judged(t, "the first one can not be borne either", with(15, 15), list(wrong, l[1]), 0, api.CConfRej, list(wrong, l[1]))
		judged(t, "what is not borne at all", with(0, 0), list(l[0], l[1]), 0, api.CConfRej, l)
	}
}

func TestJudgeRejectsDataOfAnotherLength(t *testing.T) {
	for n := range 300 {
		data := bytes.Repeat([]byte{0x2c}, n)
		if o := one(26, data...); n != 2 {
			judged(t, "deflate", with(15, 15), list(o), 0, api.CConfRej, list(o))
		}
		if o := one(21, data...); n != 1 {
			judged(t, "bsd", with(15, 15), list(o), 0, api.CConfRej, list(o))
		}
	}
}

func TestJudgeRejectsWhatTheConfigurationHasNot(t *testing.T) {
	both := list(deflate(12), bsdcomp(12))
	odd := list(one(26, 1, 1), one(21, 1))
	for _, l := range [][]api.Option{both, odd} {
		judged(t, "no deflate", with(0, 12), l, 0, api.CConfRej, l[:1])
		judged(t, "no bsd", with(12, 0), l, 0, api.CConfRej, l[1:])
		judged(t, "neither", with(0, 0), l, 0, api.CConfRej, l)
	}
}

func TestJudgeNaks(t *testing.T) {
	for i, k := range []struct{ l, want, stood []api.Option }{
		{list(deflate(13)), list(deflate(12)), nil},
		{list(deflate(15)), list(deflate(12)), nil},
		{list(bsdcomp(12)), list(bsdcomp(11)), nil},
		{list(one(26, 0x78, 1)), list(deflate(12)), nil},
		{list(one(26, 0x38, 1)), list(deflate(12)), nil},
		{list(one(26, 0x07, 0)), list(deflate(12)), nil},
		{list(one(26, 0x00, 0)), list(deflate(12)), nil},
		{list(one(26, 0x88, 0)), list(deflate(12)), nil},
		{list(one(21, 0x28)), list(bsdcomp(11)), nil},
		{list(one(21, 0x30)), list(bsdcomp(11)), nil},
		{list(one(21, 0x0a)), list(bsdcomp(11)), nil},
		{list(one(21, 0x4a)), list(bsdcomp(11)), nil},
		{list(bsdcomp(15), deflate(15)), list(bsdcomp(11), deflate(12)), nil},
		{list(deflate(15), bsdcomp(15)), list(deflate(12), bsdcomp(11)), nil},
		{list(deflate(12), bsdcomp(12)), list(bsdcomp(11)), list(bsdcomp(12))},
		{list(bsdcomp(11), deflate(13)), list(deflate(12)), list(deflate(13))},
	} {
		if k.stood == nil {
			k.stood = k.l
		}
		what := "case " + string(rune('a'+i))
		for _, naks := range []int{math.MinInt, -1, 0, 1, 2} {
			judged(t, what, with(12, 11), k.l, naks, api.CConfNak, k.want)
		}
		for _, naks := range []int{3, 4, math.MaxInt} {
			judged(t, what, with(12, 11), k.l, naks, api.CConfRej, k.stood)
		}
	}
	judged(t, "what can not be borne is told first", with(12, 11), list(deflate(13), one(1)), 0, api.CConfRej, list(one(1)))
}

func TestJudgeOfBitsThatCanNotBe(t *testing.T) {
	for _, k := range []struct {
		c       api.Conf
		l, want []api.Option
	}{
		{with(7, 0), list(deflate(8)), list(one(26, 0xf8, 0))},
		{with(1, 0), list(deflate(8)), list(one(26, 0x98, 0))},
		{with(-1, 0), list(deflate(15)), list(one(26, 0x78, 0))},
		{with(16, 0), list(one(26, 0x88, 0)), list(one(26, 0x88, 0))},
		{with(24, 0), list(one(26, 0, 0)), list(one(26, 0x08, 0))},
		{with(math.MinInt, 0), list(deflate(8)), list(one(26, 0x88, 0))},
		{with(math.MaxInt, 0), list(one(26, 1, 0)), list(one(26, 0x78, 0))},
		{with(0, 8), list(bsdcomp(9)), list(one(21, 0x28))},
		{with(0, 1), list(bsdcomp(9)), list(one(21, 0x21))},
		{with(0, -1), list(bsdcomp(9)), list(one(21, 0x1f))},
		{with(0, 32), list(one(21, 0)), list(one(21, 0x40))},
		{with(0, 300), list(one(21, 0)), list(one(21, 0x4c))},
		{with(0, math.MinInt), list(bsdcomp(9)), list(one(21, 0x20))},
		{with(0, math.MaxInt), list(one(21, 0)), list(one(21, 0x1f))},
	} {
		judged(t, "naks", k.c, k.l, 0, api.CConfNak, k.want)
		judged(t, "told often enough", k.c, k.l, 3, api.CConfRej, k.l)
	}
	judged(t, "many bits", with(16, 99), list(deflate(15), bsdcomp(15)), 0, api.CConfAck, list(deflate(15), bsdcomp(15)))
	never := with(8, 9)
	for _, most := range []int{math.MinInt, -1, 0} {
		never.MaxFailure = most
		judged(t, "no Nak may be", never, list(deflate(9)), 0, api.CConfRej, list(deflate(9)))
	}
}

// model is Judge by its words, one list at a time.
func model(c api.Conf, l []api.Option, naks int) (int, []api.Option) {
	has := map[int]int{26: c.Deflate, 21: c.Bsd}
	said := func(o api.Option) int { // 0: it can not be
		for bits := 8; bits <= 15; bits++ {
			if o.Type == 26 && opt.Same(list(o), list(deflate(bits))) || o.Type == 21 && bits > 8 && opt.Same(list(o), list(bsdcomp(bits))) {
				return bits
			}
		}
		return 0
	}
	var rejected, stood, others []api.Option
	for i, o := range l {
		twice := slices.ContainsFunc(l[:i], func(p api.Option) bool { return p.Type == o.Type })
		sized := o.Type == 26 && len(o.Data) == 2 || o.Type == 21 && len(o.Data) == 1
		if twice || !sized || has[o.Type] == 0 {
			rejected = append(rejected, o)
		}
	}
	if len(rejected) > 0 {
		return api.CConfRej, rejected
	}
	for _, o := range l {
		if n := said(o); n == 0 || n > has[o.Type] {
			stood = append(stood, o)
			if o.Type == 26 {
				others = append(others, deflate(c.Deflate))
			} else {
				others = append(others, bsdcomp(c.Bsd))
			}
		}
	}
	switch {
	case len(others) > 0 && naks < c.MaxFailure:
		return api.CConfNak, others
	case len(others) > 0:
		return api.CConfRej, stood
	}
	return api.CConfAck, l
}

// bits answers bits that a configuration may have.
func (d *draws) bits(least int) int {
	if d.next(4) == 0 {
		return 0
	}
	return least + d.next(16-least)
}

// drawnConf answers a configuration, as far as it plays a part here, that is right.
func (d *draws) drawnConf() api.Conf {
	c := with(d.bits(8), d.bits(9))
	c.MaxFailure = 1 + d.next(3)
	return c
}

// drawnRequest answers options, most of which can be.
func (d *draws) drawnRequest() []api.Option {
	var l []api.Option
	add := func(o api.Option) { l = slices.Insert(l, d.next(len(l)+1), o) }
	if d.next(3) > 0 {
		add(deflate(8 + d.next(8)))
	}
	if d.next(3) > 0 {
		add(bsdcomp(9 + d.next(7)))
	}
	for d.next(5) == 0 {
		data := []byte{byte(d.next(256)), byte(d.next(2)), 0}
		add(one([]int{1, 21, 26, 26}[d.next(4)], data[:d.next(4)]...))
	}
	return l
}

func TestJudgeIsAsItsWords(t *testing.T) {
	var d draws = 1
	codes := map[int]int{}
	for range 100000 {
		c, l, naks := d.drawnConf(), d.drawnRequest(), d.next(5)
		code, want := model(c, l, naks)
		judged(t, "drawn", c, l, naks, code, want)
		codes[code]++
	}
	if codes[api.CConfAck] < 5000 || codes[api.CConfNak] < 5000 || codes[api.CConfRej] < 5000 {
		t.Error(codes)
	}
}

// P22.10

func TestJudgesAnswerFits(t *testing.T) {
	var d draws = 2
	for range 100000 {
		c, l, naks := d.drawnConf(), d.drawnRequest(), d.next(5)
		code, answer := Judge(c, l, naks)
		if fits, e := opt.Fits(code, l, answer); !fits || e != api.OK {
			t.Fatal(code, l, answer)
		}
		if o, e := Read(answer); code == api.CConfAck && (e != api.OK || o.Deflate > c.Deflate || o.Bsd > c.Bsd) {
			t.Fatal(c, o, e)
		}
	}
}

func TestJudgeAnswersNewMemory(t *testing.T) {
	for _, k := range []struct {
		c    api.Conf
		l    []api.Option
		naks int
		code int
	}{
		{with(12, 12), list(deflate(12), bsdcomp(12)), 0, api.CConfAck},
		{with(9, 9), list(deflate(12), bsdcomp(12)), 0, api.CConfNak},
		{with(9, 9), list(deflate(12), bsdcomp(12)), 3, api.CConfRej},
		{with(0, 9), list(deflate(12), one(1, 2, 3)), 0, api.CConfRej},
	} {
		before := opt.Without(k.l)
		code, first := Judge(k.c, k.l, k.naks)
		_, second := Judge(k.c, k.l, k.naks)
		want := opt.Without(second)
		if code != k.code {
			t.Error(code)
		}
		for i := range first {
			_ = append(first[i].Data, 99, 99, 99, 99)
			clear(first[i].Data)
			first[i].Type = 77
		}
		if !opt.Same(k.l, before) || !opt.Same(second, want) {
			t.Error(k.code, "memory is shared")
		}
	}
}

// P22.3

func TestNak(t *testing.T) {
	for i, k := range []struct {
		o    Opts
		l    []api.Option
		want Opts
	}{
		{Opts{12, 12}, nil, Opts{12, 12}},
		{Opts{12, 12}, list(deflate(11)), Opts{11, 12}},
		{Opts{12, 12}, list(bsdcomp(11)), Opts{12, 11}},
		{Opts{12, 12}, list(bsdcomp(9), deflate(8)), Opts{8, 9}},
		{Opts{12, 12}, list(deflate(12), bsdcomp(12)), Opts{12, 12}},
		{Opts{12, 12}, list(deflate(13), bsdcomp(15)), Opts{12, 12}},
		{Opts{0, 12}, list(deflate(8), bsdcomp(10)), Opts{0, 10}},
		{Opts{12, 0}, list(deflate(8), bsdcomp(10)), Opts{8, 0}},
		{Opts{}, list(deflate(8), bsdcomp(10)), Opts{}},
		{Opts{12, 12}, list(deflate(9), deflate(10)), Opts{10, 12}},
		{Opts{12, 12}, list(deflate(9), deflate(15)), Opts{12, 12}}, // the last one alone
		{Opts{12, 12}, list(deflate(15), deflate(9)), Opts{9, 12}},
		{Opts{12, 12}, list(bsdcomp(10), bsdcomp(13)), Opts{12, 12}},
		{Opts{12, 12}, list(bsdcomp(13), bsdcomp(10)), Opts{12, 10}},
		{Opts{12, 12}, list(deflate(9), one(26, 0x08, 1)), Opts{9, 12}}, // whose data can be
		{Opts{12, 12}, list(deflate(9), one(26, 0x08)), Opts{9, 12}},
		{Opts{12, 12}, list(deflate(9), one(26, 0x18, 0, 0)), Opts{9, 12}},
		{Opts{12, 12}, list(bsdcomp(9), one(21, 0x28)), Opts{12, 9}},
		{Opts{12, 12}, list(bsdcomp(9), one(21, 0x2a, 0), one(21)), Opts{12, 9}},
		{Opts{12, 12}, list(one(26, 0x00, 0), one(21, 0x00)), Opts{12, 12}},
		{Opts{12, 12}, list(one(22, 0x29), one(1, 0x18, 0), one(26, 0x29), one(21, 0x18, 0)), Opts{12, 12}},
		{Opts{99, 99}, list(deflate(15), bsdcomp(15)), Opts{15, 15}},
		{Opts{-5, -5}, list(deflate(15), bsdcomp(15)), Opts{-5, -5}},
		{Opts{5, 5}, list(deflate(15), bsdcomp(15)), Opts{5, 5}},
	} {
		before := opt.Without(k.l)
		for _, c := range []api.Conf{with(0, 0), with(8, 9), with(15, 15)} {
			if o, changed := Nak(c, k.o, k.l); o != k.want || changed != (k.o != k.want) {
				t.Error(i, o, changed)
			}
		}
		if !opt.Same(k.l, before) {
			t.Error(i, "what was handed in is changed")
		}
	}
	for _, kind := range oddKinds() {
		for _, data := range [][]byte{nil, {0x29}, {0x08, 0}} {
			if o, changed := Nak(with(12, 12), Opts{12, 12}, list(one(kind, data...))); changed || o != (Opts{12, 12}) {
				t.Error(kind, o)
			}
		}
	}
}

func TestReject(t *testing.T) {
	for i, k := range []struct {
		o    Opts
		l    []api.Option
		want Opts
	}{
		{Opts{12, 13}, nil, Opts{12, 13}},
		{Opts{12, 13}, list(deflate(12)), Opts{0, 13}},
		{Opts{12, 13}, list(bsdcomp(13)), Opts{12, 0}},
		{Opts{12, 13}, list(one(26)), Opts{0, 13}},
		{Opts{12, 13}, list(one(21, 1, 2, 3)), Opts{12, 0}},
		{Opts{12, 13}, list(bsdcomp(13), deflate(12), one(21)), Opts{}},
		{Opts{-1, 99}, list(one(1), one(20), one(27), one(-21), one(256+26)), Opts{-1, 99}},
		{Opts{}, list(deflate(8), bsdcomp(9)), Opts{}},
	} {
		before := opt.Without(k.l)
		for _, c := range []api.Conf{with(0, 0), with(15, 15)} {
			if o, ok := Reject(c, k.o, k.l); o != k.want || !ok {
				t.Error(i, o, ok)
			}
		}
		if !opt.Same(k.l, before) {
			t.Error(i, "what was handed in is changed")
		}
	}
}

// P22.9

func TestWhatIsAskedEnds(t *testing.T) {
	var d draws = 3
	most := 0
	for range 50000 {
		mine, theirs := d.drawnConf(), d.drawnConf()
		o, naks, rounds := Want(mine), 0, 0
		for {
			rounds++
			code, answer := Judge(theirs, Options(o), naks)
			if code == api.CConfAck {
				break
			}
			if code == api.CConfNak {
				o, _ = Nak(mine, o, answer)
				naks++
				continue
			}
			o, _ = Reject(mine, o, answer)
			naks = 0
		}
		if rounds > 4 {
			t.Fatal(mine, theirs, rounds)
		}
		if want := (Opts{min(mine.Deflate, theirs.Deflate), min(mine.Bsd, theirs.Bsd)}); o != want {
			t.Fatal(o, want)
		}
		most = max(most, rounds)
	}
	if most != 3 { // one is rejected, and then the other one told
		t.Error(most)
	}
}

// P1

func TestLongLists(t *testing.T) {
	var l []api.Option
	for i := range 300000 {
		l = append(l, one([]int{99, 21, 26}[i%3], 0x2c))
	}
	if code, answer := Judge(with(12, 12), l, 0); code != api.CConfRej || len(answer) != len(l)-1 {
		t.Error(code, len(answer))
	}
	Nak(with(12, 12), Opts{15, 15}, l)
	Reject(with(12, 12), Opts{15, 15}, l)
	Read(l)
}
