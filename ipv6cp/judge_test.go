package ipv6cp

import (
	"bytes"
	"math"
	"slices"
	"testing"

	"tether/api"
	"tether/conf"
	"tether/opt"
)

// most answers a configuration by which so many Naks are sent at most.
func most(naks int) api.Conf {
	c := conf.Default()
	c.MaxFailure = naks
	return c
}

// judged checks one answer of Judge.
func judged(t *testing.T, what string, c api.Conf, mine uint64, l []api.Option, naks int, draw uint64, code int, want []api.Option) {
	t.Helper()
	before := opt.Without(l)
	got, answer := Judge(c, mine, l, naks, draw)
	if got != code || !opt.Same(answer, want) {
		t.Errorf("%s: %v: %d %v, not %d %v", what, l, got, answer, code, want)
	}
	if !opt.Same(l, before) {
		t.Error(what, "what was handed in is changed")
	}
}

// P17.1

func TestRead(t *testing.T) {
	for i, c := range []struct {
		l  []api.Option
		id uint64
		is bool
	}{
		{nil, 0, false},
		{list(), 0, false},
		{list(asking(0)), 0, true},
		{list(asking(1)), 1, true},
		{list(one(1, 1, 2, 3, 4, 5, 6, 7, 8)), 0x0102030405060708, true},
		{list(asking(math.MaxUint64)), math.MaxUint64, true},
	} {
		if id, is, e := Read(c.l); id != c.id || is != c.is || e != api.OK {
			t.Error(i, id, is, e)
		}
	}
}

func TestReadRefuses(t *testing.T) {
	refuses := func(l ...api.Option) {
		t.Helper()
		if id, is, e := Read(l); id != 0 || is || e != api.ErrOpt {
			t.Error(l, id, is, e)
		}
	}
	for _, kind := range oddKinds() {
		other := asking(5)
		other.Type = kind
		refuses(other)
		refuses(one(kind))
		refuses(asking(5), other)
		refuses(other, asking(5))
	}
	for n := range 300 {
		if n != 8 {
			refuses(one(1, make([]byte, n)...))
		}
	}
	refuses(asking(5), asking(5))
	refuses(asking(5), asking(6))
	refuses(asking(5), asking(5), asking(5))
	refuses(one(1), asking(5))
	refuses(asking(5), one(1))
}

func TestOptionsAreReadAsTheyWere(t *testing.T) {
	var d draws = 2
	for range 10000 {
		id := d.number()
		if got, is, e := Read(Options(id)); got != id || !is || e != api.OK {
			t.Error(id, got, is, e)
		}
	}
}

// P17.2

func TestJudgeAsInTheExamples(t *testing.T) {
	judged(t, "mine", conf.Default(), 5, list(asking(5)), 0, 5, api.CConfNak, list(asking(6)))
}

func TestJudgeRejectsTypesThatAreNotBorne(t *testing.T) {
	for _, kind := range oddKinds() {
		for _, data := range [][]byte{nil, {0}, make([]byte, 8), {1, 2, 3, 4, 5, 6, 7, 8}, make([]byte, 300)} {
			o := one(kind, data...)
			for _, naks := range []int{0, 1, 99} {
				judged(t, "alone", most(3), 5, list(o), naks, 9, api.CConfRej, list(o))
				judged(t, "with a good one", most(3), 5, list(asking(6), o), naks, 9, api.CConfRej, list(o))
				judged(t, "with one that is mine", most(3), 5, list(o, asking(5), o), naks, 9, api.CConfRej, list(o, o))
				judged(t, "with none", most(3), 5, list(o, asking(0)), naks, 9, api.CConfRej, list(o))
			}
		}
	}
}

func TestJudgeRejectsWhatStandsTwice(t *testing.T) {
	for _, first := range []uint64{0, 5, 6} {
		for _, second := range []uint64{0, 5, 6} {
			a, b := asking(first), asking(second)
			judged(t, "twice", most(3), 5, list(a, b), 0, 9, api.CConfRej, list(b))
			judged(t, "thrice", most(3), 5, list(a, b, a), 0, 9, api.CConfRej, list(b, a))
			judged(t, "behind another type", most(3), 5, list(a, one(2), b), 0, 9, api.CConfRej, list(one(2), b))
		}
	}
	judged(t, "the first one can not be either", most(3), 5, list(one(1, 6), asking(6)), 0, 9, api.CConfRej, list(one(1, 6), asking(6)))
	judged(t, "nor can the second one", most(3), 5, list(asking(6), one(1, 6)), 0, 9, api.CConfRej, list(one(1, 6)))
}

func TestJudgeRejectsDataOfAnotherLength(t *testing.T) {
	for n := range 300 {
		if n == 8 {
			continue
		}
		for _, b := range []byte{0, 5} {
			o := one(1, bytes.Repeat([]byte{b}, n)...)
			judged(t, "length", most(3), 5, list(o), 0, 9, api.CConfRej, list(o))
			judged(t, "length", most(3), 0, list(o), 9, 9, api.CConfRej, list(o))
		}
	}
}

func TestJudgeRejectsNoneWhereThereIsNone(t *testing.T) {
	for _, naks := range []int{math.MinInt, -1, 0, 1, 3, math.MaxInt} {
		judged(t, "none", most(3), 0, list(asking(0)), naks, 9, api.CConfRej, list(asking(0)))
		judged(t, "one", most(3), 0, list(asking(1)), naks, 9, api.CConfAck, list(asking(1)))
	}
	judged(t, "and what stands behind it", most(3), 0, list(asking(0), asking(7), one(3)), 0, 9, api.CConfRej, list(asking(0), asking(7), one(3)))
}

func TestJudgeNaks(t *testing.T) {
	for _, c := range []struct{ mine, asked, draw, want uint64 }{
		{5, 0, 9, 9},
		{5, 0, 0, 1},
		{5, 0, 5, 6},
		{5, 5, 9, 9},
		{5, 5, 5, 6},
		{5, 5, 4, 4},
		{1, 1, 0, 2},
		{1, 0, 0, 2},
		{math.MaxUint64, math.MaxUint64, math.MaxUint64, 1},
		{math.MaxUint64, 0, 1 << 63, 1 << 63},
	} {
		l := list(asking(c.asked))
		for _, naks := range []int{math.MinInt, -1, 0, 1, 2} {
			judged(t, "once more", most(3), c.mine, l, naks, c.draw, api.CConfNak, list(asking(c.want)))
		}
		for _, naks := range []int{3, 4, math.MaxInt} {
			judged(t, "often enough", most(3), c.mine, l, naks, c.draw, api.CConfRej, l)
		}
	}
}

func TestJudgeTellsAnIdentifierThatWasNotAsked(t *testing.T) {
	for _, l := range [][]api.Option{nil, list()} {
		for _, failures := range []int{-1, 0, 1, 3} {
			judged(t, "at first", most(failures), 5, l, 0, 9, api.CConfNak, list(asking(9)))
			judged(t, "at first", most(failures), 5, l, 0, 5, api.CConfNak, list(asking(6)))
			judged(t, "at first", most(failures), 0, l, 0, 0, api.CConfNak, list(asking(1)))
			for _, naks := range []int{math.MinInt, -1, 1, 2, 3, math.MaxInt} {
				judged(t, "later", most(failures), 5, l, naks, 9, api.CConfAck, nil)
				judged(t, "later", most(failures), 0, l, naks, 9, api.CConfAck, nil)
			}
		}
	}
}

func TestJudgeAcknowledges(t *testing.T) {
	for _, id := range []uint64{1, 4, 6, 1 << 32, 1<<63 + 5, math.MaxUint64} {
		for _, naks := range []int{math.MinInt, 0, 1, 3, math.MaxInt} {
			judged(t, "another one", most(3), 5, list(asking(id)), naks, id, api.CConfAck, list(asking(id)))
		}
	}
}

// model is Judge by its words, one list at a time.
func model(c api.Conf, mine uint64, l []api.Option, naks int, draw uint64) (int, []api.Option) {
	none, own := asking(0).Data, asking(mine).Data
	given := draw
	for given == 0 || given == mine {
		given++
	}
	var rejected []api.Option
	for i, o := range l {
		twice := slices.ContainsFunc(l[:i], func(p api.Option) bool { return p.Type == o.Type })
		if o.Type != 1 || twice || len(o.Data) != 8 || mine == 0 && bytes.Equal(o.Data, none) {
			rejected = append(rejected, o)
		}
	}
	at := slices.IndexFunc(l, func(o api.Option) bool { return o.Type == 1 })
	switch {
	case len(rejected) > 0:
		return api.CConfRej, rejected
	case at < 0 && naks == 0:
		return api.CConfNak, list(asking(given))
	case at < 0 || !bytes.Equal(l[at].Data, none) && !bytes.Equal(l[at].Data, own):
		return api.CConfAck, l
	case naks < c.MaxFailure:
		return api.CConfNak, list(asking(given))
	}
	return api.CConfRej, list(l[at])
}

// drawnRequest answers options, most of which can be.
func (d *draws) drawnRequest() []api.Option {
	var l []api.Option
	if d.next(4) > 0 {
		l = append(l, asking(d.number()))
	}
	for d.next(4) == 0 {
		o := asking(d.number())
		o.Type = d.next(3)
		o.Data = o.Data[d.next(2):]
		l = slices.Insert(l, d.next(len(l)+1), o)
	}
	return l
}

func TestJudgeIsAsItsWords(t *testing.T) {
	var d draws = 3
	codes := map[int]int{}
	for range 100000 {
		c, mine, l, naks, draw := most(d.next(4)), d.number(), d.drawnRequest(), d.next(4), d.number()
		code, want := model(c, mine, l, naks, draw)
		judged(t, "drawn", c, mine, l, naks, draw, code, want)
		codes[code]++
	}
	if codes[api.CConfAck] < 5000 || codes[api.CConfNak] < 5000 || codes[api.CConfRej] < 5000 {
		t.Error(codes)
	}
}

func TestJudgeAnswersNewMemory(t *testing.T) {
	for _, k := range []struct {
		l    []api.Option
		naks int
		code int
	}{
		{list(asking(6)), 0, api.CConfAck},
		{list(asking(5)), 0, api.CConfNak},
		{nil, 0, api.CConfNak},
		{list(asking(5)), 3, api.CConfRej},
		{list(one(2, 1, 2), one(1, 5)), 0, api.CConfRej},
	} {
		before := opt.Without(k.l)
		code, first := Judge(most(3), 5, k.l, k.naks, 9)
		_, second := Judge(most(3), 5, k.l, k.naks, 9)
		want := opt.Without(second)
		if code != k.code {
			t.Error(code)
		}
		for i := range first {
			_ = append(first[i].Data, 99, 99, 99, 99)
			clear(first[i].Data)
			first[i].Type = 77
		}
		if !opt.Same(k.l, before) || !opt.Same(second, want) {
			t.Error(k.code, "memory is shared")
		}
	}
}

// P17.3

func TestNak(t *testing.T) {
	for i, c := range []struct {
		id, draw uint64
		l        []api.Option
		want     uint64
	}{
		{5, 9, list(asking(6)), 6},
		{5, 9, list(asking(math.MaxUint64)), math.MaxUint64},
		{0, 9, list(asking(6)), 6},
		{5, 9, list(asking(5)), 9},
		{5, 5, list(asking(5)), 6},
		{5, 9, list(asking(0)), 9},
		{5, 0, list(asking(0)), 1},
		{5, 5, list(asking(0)), 6},
		{0, 0, list(asking(0)), 1},
		{0, 9, list(asking(0)), 9},
		{1, 0, list(asking(1)), 2},
		{math.MaxUint64, math.MaxUint64, list(asking(math.MaxUint64)), 1},
		// none that counts
		{5, 9, nil, 5},
		{0, 9, nil, 0},
		{5, 9, list(one(1), one(1, 6), one(1, 0, 0, 0, 0, 0, 0, 6), one(1, 0, 0, 0, 0, 0, 0, 0, 0, 6)), 5},
		// the last one counts
		{5, 9, list(asking(6), asking(7)), 7},
		{5, 9, list(asking(7), asking(0)), 9},
		{5, 9, list(asking(0), asking(7)), 7},
		{5, 9, list(asking(7), asking(5)), 9},
		{5, 9, list(asking(5), asking(7), one(1), one(1, 8)), 7},
	} {
		before := opt.Without(c.l)
		got, changed := Nak(c.id, c.l, c.draw)
		if got != c.want || changed != (c.want != c.id) {
			t.Error(i, got, changed)
		}
		if !opt.Same(c.l, before) {
			t.Error(i, "what was handed in is changed")
		}
	}
}

func TestNakPassesOverOtherTypes(t *testing.T) {
	for _, kind := range oddKinds() {
		other := asking(8)
		other.Type = kind
		if got, changed := Nak(5, list(other), 9); got != 5 || changed {
			t.Error(kind, got, changed)
		}
		if got, changed := Nak(5, list(other, asking(6), other), 9); got != 6 || !changed {
			t.Error(kind, got, changed)
		}
	}
}

func TestReject(t *testing.T) {
	for _, id := range numbers() {
		for _, l := range [][]api.Option{
			list(asking(id)), list(one(1)), list(one(1, 6)), list(one(2), one(1)), list(one(1), one(2)), list(asking(6), asking(7)),
		} {
			if got, can := Reject(id, l); got != 0 || can {
				t.Error(id, l, got, can)
			}
		}
		if got, can := Reject(id, nil); got != id || !can {
			t.Error(id, got, can)
		}
		for _, kind := range oddKinds() {
			if got, can := Reject(id, list(one(kind, make([]byte, 8)...), one(kind))); got != id || !can {
				t.Error(kind, got, can)
			}
		}
	}
}

// P17.6

func TestJudgeAcknowledgesNeitherNoneNorMine(t *testing.T) {
	var d draws = 4
	for range 100000 {
		c, mine, l, naks, draw := most(d.next(4)), d.number(), d.drawnRequest(), d.next(4), d.number()
		code, answer := Judge(c, mine, l, naks, draw)
		if fits, e := opt.Fits(code, l, answer); !fits || e != api.OK {
			t.Error(code, l, answer)
		}
		if code != api.CConfAck {
			continue
		}
		id, is, e := Read(answer)
		if e != api.OK || is && (id == 0 || id == mine) || !is && naks == 0 {
			t.Error(mine, naks, answer)
		}
	}
}

// P17.5

// side is one of two ends that ask each other.
type side struct {
	c    api.Conf
	id   uint64
	naks int
	is   bool // was its identifier acknowledged?
}

// answered goes on by what the other end says to what a asks, by that end's identifier and draws of both.
func (a *side) answered(b *side, theirs, mine, others uint64) {
	code, l := Judge(b.c, theirs, Options(a.id), b.naks, others)
	switch code {
	case api.CConfAck:
		a.is = true
	case api.CConfNak:
		b.naks++
		a.id, _ = Nak(a.id, l, mine)
	default:
		panic("rejected")
	}
}

// rounds tells after how many rounds two ends have identifiers that are not the same: in a round both ask, and are answered, at once or one behind the other. At each round they draw anew.
func rounds(first, second uint64, atOnce bool, draws func() (uint64, uint64)) int {
	c := most(5)
	mine, others := draws()
	c.LocalId = first
	a := side{c: c, id: Want(c, mine)}
	c.LocalId = second
	b := side{c: c, id: Want(c, others)}
	for n := 1; n < 5; n++ {
		mine, others = draws()
		was := a.id
		a.answered(&b, b.id, mine, others)
		if !atOnce {
			was = a.id
		}
		b.answered(&a, was, others, mine)
		if a.is && b.is {
			if Done(a.id, b.id) != api.OK || Done(b.id, a.id) != api.OK {
				panic("both have the same")
			}
			return n
		}
		a.is, b.is = false, false // at a round that went well for one end alone, the other one's identifier may be what was acknowledged
	}
	return 5
}

func TestItEndsWithinThreeRounds(t *testing.T) {
	for _, mine := range numbers() {
		for _, others := range numbers() {
			same := func() (uint64, uint64) { return mine, others }
			apart := min(mine-others, others-mine)
			for _, first := range numbers() {
				for _, second := range numbers() {
					if n := rounds(first, second, false, same); mine != others && n > 3 {
						t.Error("one behind the other", mine, others, first, second, n)
					}
					if n := rounds(first, second, true, same); apart > 2 && n > 3 { // draws that stand side by side may meet in one identifier
						t.Error("at once", mine, others, first, second, n)
					}
				}
			}
		}
	}
}

func TestItEndsByDrawsThatAreDrawnAnew(t *testing.T) {
	var d draws = 5
	seen := map[int]int{}
	for range 10000 {
		id := d.number()
		n := rounds(id, id, d.next(2) == 0, func() (uint64, uint64) { return d.whole(), d.whole() })
		if n > 3 {
			t.Error(id, n)
		}
		seen[n]++
	}
	if seen[2] == 0 {
		t.Error(seen)
	}
}

// P1

func TestJudgeOfNumbersOfAnyKind(t *testing.T) {
	for _, failures := range []int{math.MinInt, -1, 0, math.MaxInt} {
		for _, naks := range []int{math.MinInt, 0, math.MaxInt} {
			for _, id := range numbers() {
				code, l := Judge(most(failures), id, list(asking(id), one(-1), one(1, 2)), naks, id)
				if code != api.CConfRej || len(l) < 2 {
					t.Error(code, l)
				}
				Judge(api.Conf{}, id, list(asking(id)), naks, id)
			}
		}
	}
}
