package lcp

import (
	"bytes"
	"math"
	"slices"
	"testing"

	"tether/api"
	"tether/conf"
	"tether/opt"
)

// but answers a configuration that bears all types and methods, with a change.
func but(change func(c *api.Conf)) api.Conf {
	c := conf.Default()
	change(&c)
	return c
}

// judged checks one answer of Judge.
func judged(t *testing.T, what string, c api.Conf, mine Opts, l []api.Option, naks int, magic uint32, code int, want []api.Option) {
	t.Helper()
	before := opt.Without(l)
	got, answer := Judge(c, mine, l, naks, magic)
	if got != code || !opt.Same(answer, want) {
		t.Errorf("%s: %v: %d %v, not %d %v", what, l, got, answer, code, want)
	}
	if !opt.Same(l, before) {
		t.Error(what, "what was handed in is changed")
	}
}

// P11.3

func TestJudgeAsInTheExamples(t *testing.T) {
	l := list(one(1, 5, 0x78), one(5, 0, 0, 0, 5))
	judged(t, "another magic", conf.Default(), Opts{Magic: 7}, l, 0, 9, api.CConfAck, l)
	judged(t, "the same magic", conf.Default(), Opts{Magic: 5}, l, 0, 9, api.CConfNak, list(one(5, 0, 0, 0, 9)))
	judged(t, "type 4", conf.Default(), Opts{Magic: 7}, append(l, one(4, 1, 2)), 0, 9, api.CConfRej, list(one(4, 1, 2)))
}

func TestJudgeAcknowledges(t *testing.T) {
	c := conf.Default()
	for _, l := range [][]api.Option{
		nil,
		{},
		list(one(1, 0, 64)),
		list(one(1, 0x40, 0)),
		list(one(1, 5, 0xdc)), // as without it, too
		list(one(2, 0, 0, 0, 0)),
		list(one(2, 255, 255, 255, 255)),
		list(one(3, 0xc0, 0x23)),
		list(one(3, 0xc2, 0x23, 5)),
		list(one(3, 0xc2, 0x27)),
		list(one(5, 0, 0, 0, 1)),
		list(one(5, 255, 255, 255, 255)),
		list(one(7)),
		list(api.Option{Type: 7, Data: []byte{}}),
		list(one(8)),
		list(one(8), one(7), one(5, 1, 2, 3, 4), one(3, 0xc2, 0x27), one(2, 0, 10, 0, 0), one(1, 1, 0)),
	} {
		for _, naks := range []int{math.MinInt, -1, 0, 4, 5, 6, math.MaxInt} {
			judged(t, "all can be", c, Opts{Magic: 7}, l, naks, 9, api.CConfAck, l)
		}
	}
}

func TestJudgeRejectsTypesThatAreNone(t *testing.T) {
	for _, kind := range oddKinds() {
		for _, data := range [][]byte{nil, {0}, {1, 0}, {0xc0, 0x23}, {1, 2, 3, 4}, make([]byte, 300)} {
			o := one(kind, data...)
			judged(t, "alone", conf.Default(), Opts{}, list(o), 0, 9, api.CConfRej, list(o))
			judged(t, "twice", conf.Default(), Opts{}, list(o, one(7), o), 9, 9, api.CConfRej, list(o, o))
		}
	}
}

func TestJudgeRejectsWhatStandsTwice(t *testing.T) {
	for _, o := range list(one(1, 1, 0), one(2, 1, 1, 1, 1), one(3, 0xc0, 0x23), one(5, 1, 1, 1, 1), one(7), one(8)) {
		judged(t, "once", conf.Default(), Opts{}, list(o), 0, 9, api.CConfAck, list(o))
		judged(t, "twice", conf.Default(), Opts{}, list(o, o), 0, 9, api.CConfRej, list(o))
		judged(t, "thrice", conf.Default(), Opts{}, list(o, o, o), 0, 9, api.CConfRej, list(o, o))
	}
	judged(t, "the second one goes", conf.Default(), Opts{}, list(one(1, 1, 0), one(7), one(1, 2, 0), one(8), one(1, 3, 0)), 0, 9,
		api.CConfRej, list(one(1, 2, 0), one(1, 3, 0)))
	judged(t, "the first one can not be either", conf.Default(), Opts{}, list(one(1, 1), one(1, 2, 0)), 0, 9,
		api.CConfRej, list(one(1, 1), one(1, 2, 0)))
	judged(t, "the first one would be another", conf.Default(), Opts{}, list(one(1, 0, 1), one(1, 2, 0)), 0, 9,
		api.CConfRej, list(one(1, 2, 0)))
}

func TestJudgeRejectsDataOfAnotherLength(t *testing.T) {
	for n := range 300 {
		data := bytes.Repeat([]byte{1}, n)
		for kind, size := range map[int]int{1: 2, 2: 4, 5: 4, 7: 0, 8: 0} {
			if o := one(kind, data...); n != size {
				judged(t, "length", conf.Default(), Opts{}, list(o, one(3, 0, 0)), 0, 9, api.CConfRej, list(o))
			}
		}
		o := one(3, data...)
		if n < 2 {
			judged(t, "length of Auth", conf.Default(), Opts{}, list(o), 0, 9, api.CConfRej, list(o))
		} else {
			judged(t, "length of Auth", conf.Default(), Opts{}, list(o), 0, 9, api.CConfNak, list(one(3, 0xc2, 0x23, 5)))
		}
	}
}

func TestJudgeRejectsWhatTheConfigurationHasNot(t *testing.T) {
	all := list(one(1, 5, 0), one(2, 0, 0, 0, 0), one(3, 0xc0, 0x23), one(5, 0, 0, 0, 7), one(7), one(8))
	for i, c := range []struct {
		change func(c *api.Conf)
		want   []api.Option
	}{
		{func(c *api.Conf) { c.Pfc = false }, list(one(7))},
		{func(c *api.Conf) { c.Acfc = false }, list(one(8))},
		{func(c *api.Conf) { c.Magic = false }, list(one(5, 0, 0, 0, 7))},
		{func(c *api.Conf) { c.Accept = nil }, list(one(3, 0xc0, 0x23))},
		{func(c *api.Conf) { c.Accept = []int{} }, list(one(3, 0xc0, 0x23))},
		{func(c *api.Conf) { *c = api.Conf{} }, all[2:]},
	} {
		// The magic number is this end's own: what is rejected is not nakked.
		judged(t, "case "+string(rune('0'+i)), but(c.change), Opts{Magic: 7}, all, 0, 9, api.CConfRej, c.want)
	}
	judged(t, "a method that is none", but(func(c *api.Conf) { c.Accept = nil }), Opts{}, list(one(3, 0, 0)), 0, 9, api.CConfRej, list(one(3, 0, 0)))
}

func TestJudgeNaks(t *testing.T) {
	for i, c := range []struct {
		accept []int
		mine   uint32
		l      []api.Option
		want   []api.Option
	}{
		{nil, 7, list(one(1, 0, 63)), list(one(1, 0, 64))},
		{nil, 7, list(one(1, 0, 0)), list(one(1, 0, 64))},
		{nil, 7, list(one(1, 0x40, 1)), list(one(1, 0x40, 0))},
		{nil, 7, list(one(1, 255, 255)), list(one(1, 0x40, 0))},
		{nil, 7, list(one(5, 0, 0, 0, 0)), list(one(5, 9, 8, 7, 6))},
		{nil, 0, list(one(5, 0, 0, 0, 0)), list(one(5, 9, 8, 7, 6))},
		{nil, 1 << 31, list(one(5, 128, 0, 0, 0)), list(one(5, 9, 8, 7, 6))},
		{nil, 0x09080706, list(one(5, 9, 8, 7, 6)), list(one(5, 9, 8, 7, 6))}, // other or not: it is this end's own
		{[]int{api.MPap}, 7, list(one(3, 0xc2, 0x23, 5)), list(one(3, 0xc0, 0x23))},
		{[]int{api.MPap}, 7, list(one(3, 0xc2, 0x27)), list(one(3, 0xc0, 0x23))},
		{[]int{api.MChap, api.MEap}, 7, list(one(3, 0xc0, 0x23)), list(one(3, 0xc2, 0x23, 5))},
		{[]int{api.MEap, api.MChap}, 7, list(one(3, 0xc0, 0x23)), list(one(3, 0xc2, 0x27))},
		{[]int{api.MEap, api.MPap, api.MChap}, 7, list(one(3, 0xc2, 0x23, 6)), list(one(3, 0xc2, 0x27))},
		{
			[]int{api.MPap}, 7,
			list(one(8), one(5, 0, 0, 0, 7), one(3, 0xc2, 0x27), one(7), one(2, 1, 1, 1, 1), one(1, 0, 1)),
			list(one(5, 9, 8, 7, 6), one(3, 0xc0, 0x23), one(1, 0, 64)),
		},
	} {
		k := but(func(k *api.Conf) { k.MaxFailure = 3 })
		if c.accept != nil {
			k.Accept = c.accept
		}
		stood := list()
		for _, o := range c.l {
			if slices.ContainsFunc(c.want, func(w api.Option) bool { return w.Type == o.Type }) {
				stood = append(stood, o)
			}
		}
		what := "case " + string(rune('a'+i))
		for _, naks := range []int{math.MinInt, -1, 0, 1, 2} {
			judged(t, what, k, Opts{Magic: c.mine}, c.l, naks, 0x09080706, api.CConfNak, c.want)
		}
		for _, naks := range []int{3, 4, math.MaxInt} {
			judged(t, what, k, Opts{Magic: c.mine}, c.l, naks, 0x09080706, api.CConfRej, stood)
		}
	}
}

func TestJudgeNaksEachDataThatAreNoMethods(t *testing.T) {
	for _, data := range noMethods() {
		judged(t, "no method", conf.Default(), Opts{}, list(one(3, data...)), 0, 9, api.CConfNak, list(one(3, 0xc2, 0x23, 5)))
		judged(t, "no method", but(func(c *api.Conf) { c.Accept = []int{0, api.MPap} }), Opts{}, list(one(3, data...)), 0, 9, api.CConfNak, list(one(3)))
	}
}

func TestJudgeOfNoMagicOfItsOwn(t *testing.T) {
	l := list(one(5, 0, 0, 0, 9))
	judged(t, "none", conf.Default(), Opts{}, l, 0, 9, api.CConfAck, l)
	judged(t, "to be told none", conf.Default(), Opts{}, list(one(5, 0, 0, 0, 0)), 0, 0, api.CConfNak, list(one(5, 0, 0, 0, 0)))
}

func TestJudgeOfAConfigurationThatIsNotRight(t *testing.T) {
	auth := list(one(3, 0xc0, 0x23))
	judged(t, "no method accepted", but(func(c *api.Conf) { c.Accept = []int{-7, 99} }), Opts{}, auth, 0, 9, api.CConfNak, list(one(3)))
	judged(t, "a method behind", but(func(c *api.Conf) { c.Accept = []int{99, api.MPap} }), Opts{}, auth, 0, 9, api.CConfAck, auth)
	for _, most := range []int{0, -1, math.MinInt} {
		l := list(one(1, 0, 1))
		judged(t, "never", but(func(c *api.Conf) { c.MaxFailure = most }), Opts{}, l, most, 9, api.CConfRej, l)
	}
	l := list(one(1, 0, 64))
	judged(t, "its own mru plays no part", but(func(c *api.Conf) { c.Mru = -1 }), Opts{Mru: math.MinInt}, l, 0, 9, api.CConfAck, l)
}

func TestJudgeAnswersNewMemory(t *testing.T) {
	for _, c := range []struct {
		l    []api.Option
		naks int
		code int
	}{
		{list(one(1, 5, 0), one(5, 0, 0, 0, 5)), 0, api.CConfAck},
		{list(one(1, 0, 1), one(3, 1, 1), one(5, 0, 0, 0, 7)), 0, api.CConfNak},
		{list(one(1, 0, 1), one(3, 1, 1), one(5, 0, 0, 0, 7)), 99, api.CConfRej},
		{list(one(4, 1, 2), one(1, 5)), 0, api.CConfRej},
	} {
		before := opt.Without(c.l)
		code, first := Judge(conf.Default(), Opts{Magic: 7}, c.l, c.naks, 9)
		_, second := Judge(conf.Default(), Opts{Magic: 7}, c.l, c.naks, 9)
		want := opt.Without(second)
		if code != c.code {
			t.Error(code)
		}
		for i := range first {
			_ = append(first[i].Data, 99, 99, 99, 99)
			clear(first[i].Data)
			first[i].Type = 77
		}
		if !opt.Same(c.l, before) || !opt.Same(second, want) {
			t.Error(c.code, "memory is shared")
		}
	}
}

// can tells by the words whether one option of a request can be borne; whether it stands twice aside.
func can(c api.Conf, o api.Option) bool {
	n := len(o.Data)
	return o.Type == OMru && n == 2 ||
		o.Type == OAccm && n == 4 ||
		o.Type == OAuth && n >= 2 && len(c.Accept) > 0 ||
		o.Type == OMagic && n == 4 && c.Magic ||
		o.Type == OPfc && n == 0 && c.Pfc ||
		o.Type == OAcfc && n == 0 && c.Acfc
}

// instead answers by the words which option would be borne in place of one that can be, or that one.
func instead(c api.Conf, mine Opts, o api.Option, magic uint32) (api.Option, bool) {
	switch {
	case o.Type == OMru && bytes.Compare(o.Data, []byte{0, 64}) < 0:
		return one(OMru, 0, 64), true
	case o.Type == OMru && bytes.Compare(o.Data, []byte{0x40, 0}) > 0:
		return one(OMru, 0x40, 0), true
	case o.Type == OAuth:
		for _, m := range c.Accept {
			if data, ok := methods()[m]; ok && bytes.Equal(data, o.Data) {
				return o, false
			}
		}
		return one(OAuth, methods()[c.Accept[0]]...), true
	case o.Type == OMagic:
		n := uint32(o.Data[0])<<24 | uint32(o.Data[1])<<16 | uint32(o.Data[2])<<8 | uint32(o.Data[3])
		if n == 0 || mine.Magic != 0 && n == mine.Magic {
			return one(OMagic, byte(magic>>24), byte(magic>>16), byte(magic>>8), byte(magic)), true
		}
	}
	return o, false
}

// model is Judge by its words, one list at a time.
func model(c api.Conf, mine Opts, l []api.Option, naks int, magic uint32) (int, []api.Option) {
	var rejected, stood, others []api.Option
	for i, o := range l {
		twice := slices.ContainsFunc(l[:i], func(p api.Option) bool { return p.Type == o.Type })
		if twice || !can(c, o) {
			rejected = append(rejected, o)
		}
	}
	if len(rejected) > 0 {
		return api.CConfRej, rejected
	}
	for _, o := range l {
		if other, is := instead(c, mine, o, magic); is {
			stood, others = append(stood, o), append(others, other)
		}
	}
	switch {
	case len(others) == 0:
		return api.CConfAck, l
	case naks < c.MaxFailure:
		return api.CConfNak, others
	}
	return api.CConfRej, stood
}

// drawnConf answers a configuration, as far as it plays a part here, that is right.
func (d *draws) drawnConf() api.Conf {
	c := conf.Default()
	c.Mru = []int{64, 65, 576, 1500, 2000, 16384}[d.next(6)]
	c.Asyncmap = []int64{0, 0xa0000, math.MaxUint32}[d.next(3)]
	c.Require = d.next(4)
	c.Accept = [][]int{nil, {1}, {2}, {3}, {1, 2}, {3, 1}, {2, 3, 1}, {3, 2, 1}}[d.next(8)]
	c.Magic, c.Pfc, c.Acfc = d.next(4) > 0, d.next(4) > 0, d.next(4) > 0
	c.MaxFailure = 1 + d.next(4)
	return c
}

// drawnData answers data that an option of some type may have.
func (d *draws) drawnData() []byte {
	switch d.next(8) {
	case 0:
		return methods()[1+d.next(3)]
	case 1:
		return noMethods()[d.next(10)]
	case 2:
		return nil
	case 3:
		return bytes.Repeat([]byte{byte(d.next(256))}, d.next(7))
	case 4:
		return []byte{byte(d.next(66)), byte(d.next(256))}
	case 5:
		return []byte{[]byte{0, 0x40}[d.next(2)], []byte{0, 1, 63, 64, 65}[d.next(5)]}
	}
	return []byte{0, 0, 0, byte(d.next(4))}
}

// drawnRequest answers options, most of which can be.
func (d *draws) drawnRequest() []api.Option {
	l := Options(d.drawnOpts())
	for range d.next(3) {
		if len(l) > 0 {
			l[d.next(len(l))].Data = d.drawnData()
		}
	}
	for range d.next(3) {
		l = slices.Insert(l, d.next(len(l)+1), one(d.next(10), d.drawnData()...))
	}
	for i := range l {
		j := d.next(i + 1)
		l[i], l[j] = l[j], l[i]
	}
	return l
}

// met counts how often each code has been answered, and fails if one was hardly.
type met [5]int

func (m met) check(t *testing.T) {
	t.Helper()
	if m[api.CConfAck] < 500 || m[api.CConfNak] < 500 || m[api.CConfRej] < 500 {
		t.Error("hardly tested:", m)
	}
}

func TestJudgeIsAsItsWords(t *testing.T) {
	var d draws = 2
	var m met
	for range 60000 {
		c, mine, l := d.drawnConf(), d.drawnOpts(), d.drawnRequest()
		naks, magic := d.next(5), uint32(d.next(4))
		if d.next(4) == 0 {
			mine.Magic = magic
		}
		code, want := model(c, mine, l, naks, magic)
		judged(t, "drawn", c, mine, l, naks, magic, code, want)
		m[code]++
		if t.Failed() {
			t.Fatalf("%+v, mine %+v, naks %d, magic %d", c, mine, naks, magic)
		}
	}
	m.check(t)
}

// P11.8

func TestJudgesAnswerFitsTheRequest(t *testing.T) {
	var d draws = 3
	var m met
	for range 60000 {
		c, mine, l := d.drawnConf(), d.drawnOpts(), d.drawnRequest()
		code, answer := Judge(c, mine, l, d.next(5), uint32(d.next(4)))
		if ok, e := opt.Fits(code, l, answer); !ok || e != api.OK {
			t.Fatal(l, code, answer)
		}
		m[code]++
		if code != api.CConfAck {
			continue
		}
		o, e := Read(l)
		if e != api.OK {
			t.Fatal("acknowledged, but it can not be:", l)
		}
		if o.Auth != 0 && !slices.Contains(c.Accept, o.Auth) || o.Pfc && !c.Pfc || o.Acfc && !c.Acfc || o.Magic != 0 && (!c.Magic || o.Magic == mine.Magic) {
			t.Fatal("acknowledged, but not borne:", l)
		}
	}
	m.check(t)
}

// P11.7

// followed answers a request as the answer to it says.
func followed(l []api.Option, code int, answer []api.Option) []api.Option {
	var out []api.Option
	for i := len(l) - 1; i >= 0; i-- { // from the end, as of those that stand twice the first one stays
		o := l[i]
		n := len(answer) - 1
		switch {
		case n < 0 || answer[n].Type != o.Type || code == api.CConfRej && !opt.Same(answer[n:], list(o)):
			out = append(out, o)
		case code == api.CConfNak:
			out = append(out, answer[n])
			fallthrough
		default:
			answer = answer[:n]
		}
	}
	slices.Reverse(out)
	return out
}

func TestWhatIsAskedAsToldIsAcknowledged(t *testing.T) {
	var d draws = 4
	var m met
	for range 30000 {
		c, mine, l := d.drawnConf(), d.drawnOpts(), d.drawnRequest()
		magic := mine.Magic + 1 + uint32(d.next(2))
		if magic == 0 {
			magic = 99
		}
		asked, naks, code := l, 0, 0
		for round := range 4 {
			var answer []api.Option
			code, answer = Judge(c, mine, asked, naks, magic)
			m[code]++
			if code == api.CConfAck {
				break
			}
			if round == 3 {
				t.Fatal(l, "and still", asked, code, answer)
			}
			if code == api.CConfNak {
				naks++
			}
			asked = followed(asked, code, answer)
		}
	}
	m.check(t)
}

// negotiate lets an end ask, by Nak and Reject of what the other one judges, until that acknowledges, or the asking end gives up. It tells the rounds.
func negotiate(t *testing.T, d *draws, asking, judging api.Conf, o, theirs Opts) (Opts, int, bool) {
	naks := 0
	for round := 1; ; round++ {
		l := Options(o)
		if read, e := Read(l); read != o || e != api.OK {
			t.Fatal("it can not be asked:", o)
		}
		code, answer := Judge(judging, theirs, l, naks, uint32(1+d.next(1<<30)))
		going := true
		switch code {
		case api.CConfAck:
			return o, round, true
		case api.CConfNak:
			naks++
			o, _ = Nak(asking, o, answer, uint32(1+d.next(1<<30)))
		case api.CConfRej:
			naks = 0
			o, going = Reject(asking, o, answer)
		}
		if !going || round > 12 {
			return o, round, false
		}
	}
}

func TestNegotiationEnds(t *testing.T) {
	var d draws = 5
	longest, ended := 0, 0
	for range 20000 {
		asking, judging := d.drawnConf(), d.drawnConf()
		theirs := Want(judging, uint32(d.next(3)))
		o, rounds, ok := negotiate(t, &d, asking, judging, Want(asking, uint32(d.next(3))), theirs)
		longest = max(longest, rounds)
		if refused := asking.Require != 0 && !slices.Contains(judging.Accept, asking.Require); ok == refused || rounds > 12 {
			t.Fatalf("%+v, of %+v: %+v in %d", asking, judging, o, rounds)
		}
		if ok {
			ended++
		}
	}
	if ended < 1000 || longest < 4 {
		t.Error(ended, longest)
	}
}

// P1

func TestJudgeOfVeryManyOptions(t *testing.T) {
	l := make([]api.Option, 1<<17)
	for i := range l {
		l[i] = one(i%300-20, 1, 2)
	}
	if code, answer := Judge(conf.Default(), Opts{}, l, 0, 9); code != api.CConfRej || len(answer) != len(l)-2 { // of the types 1 and 3 one each would be borne, or nakked
		t.Error(code, len(l)-len(answer))
	}
	if _, e := Read(l); e != api.ErrOpt {
		t.Error(e)
	}
}
