package lcp

import (
	"bytes"
	"math"
	"testing"

	"tether/api"
	"tether/conf"
	"tether/opt"
)

// draws is a chain of numbers that are the same at each run.
type draws uint64

func (d *draws) next(below int) int {
	*d = *d*6364136223846793005 + 1442695040888963407
	return int(uint64(*d)>>33) % below
}

// one answers an option.
func one(kind int, data ...byte) api.Option {
	return api.Option{Type: kind, Data: data}
}

// list answers a list of options.
func list(l ...api.Option) []api.Option {
	return l
}

// oddKinds are types that the table has not.
func oddKinds() []int {
	return []int{math.MinInt, -256, -1, 0, 4, 6, 9, 10, 13, 17, 255, 256, 257, 259, 1 << 32, 1<<32 + 1, math.MaxInt}
}

// methods are the methods' data.
func methods() map[int][]byte {
	return map[int][]byte{
		api.MPap:  {0xc0, 0x23},
		api.MChap: {0xc2, 0x23, 5},
		api.MEap:  {0xc2, 0x27},
	}
}

// noMethods are data that ask for no method, but may stand in a request.
func noMethods() [][]byte {
	return [][]byte{
		{0xc2, 0x23}, {0xc2, 0x23, 4}, {0xc2, 0x23, 0x80}, {0xc2, 0x23, 5, 0}, {0xc0, 0x23, 5}, {0xc0, 0x23, 0},
		{0xc2, 0x27, 5}, {0x23, 0xc0}, {0, 0}, {0xc0, 0x21}, {0xc0, 0x27}, make([]byte, 253), make([]byte, 300),
	}
}

// drawnOpts answers what can be.
func (d *draws) drawnOpts() Opts {
	o := Default()
	if d.next(2) == 0 {
		o.Mru = []int{64, 65, 255, 256, 1499, 1500, 1501, 16383, 16384, 64 + d.next(16321)}[d.next(10)]
	}
	if d.next(2) == 0 {
		o.Accm = []int64{0, 1, 0xa0000, 1 << 31, math.MaxUint32 - 1, math.MaxUint32, int64(d.next(1 << 31))}[d.next(7)]
	}
	if d.next(2) == 0 {
		o.Magic = []uint32{1, 2, 255, 256, 1 << 31, math.MaxUint32, uint32(d.next(1<<31)) + 1}[d.next(7)]
	}
	o.Auth, o.Pfc, o.Acfc = d.next(4), d.next(2) == 0, d.next(2) == 0
	return o
}

// The document's 'Functions'

func TestTypesHaveTheirNumbers(t *testing.T) {
	if OMru != 1 || OAccm != 2 || OAuth != 3 || OMagic != 5 || OPfc != 7 || OAcfc != 8 {
		t.Error(OMru, OAccm, OAuth, OMagic, OPfc, OAcfc)
	}
}

// P11.1

func TestDefault(t *testing.T) {
	if o := Default(); o != (Opts{Mru: 1500, Accm: 0xffffffff}) {
		t.Error(o)
	}
}

func TestAuth(t *testing.T) {
	for m, want := range methods() {
		b := Auth(m)
		if !bytes.Equal(b, want) {
			t.Error(m, b)
		}
		_ = append(b, 9, 9, 9)
		clear(b)
		if !bytes.Equal(Auth(m), want) {
			t.Error(m, "an answer is seen in a later one")
		}
	}
	for _, m := range []int{math.MinInt, -1, 0, 4, 5, 255, 256, 257, 1<<32 + 1, math.MaxInt} {
		if b := Auth(m); len(b) != 0 {
			t.Error(m, b)
		}
	}
}

func TestMethod(t *testing.T) {
	for m, data := range methods() {
		if got := Method(data); got != m {
			t.Error(m, got)
		}
		for n := range data {
			if got := Method(data[:n]); got != 0 {
				t.Error(m, n, got)
			}
		}
	}
	for _, data := range append(noMethods(), nil, []byte{}, []byte{0xc0}) {
		if m := Method(data); m != 0 {
			t.Error(data, m)
		}
	}
	for n := range 1 << 16 {
		m := Method([]byte{byte(n >> 8), byte(n)})
		if m != map[int]int{0xc023: api.MPap, 0xc227: api.MEap}[n] {
			t.Errorf("%x: %d", n, m)
		}
		if m := Method([]byte{byte(n >> 8), byte(n), 5}); m != map[int]int{0xc223: api.MChap}[n] {
			t.Errorf("%x 5: %d", n, m)
		}
	}
}

func TestOptions(t *testing.T) {
	if l := Options(Default()); len(l) != 0 {
		t.Error(l)
	}
	for i, c := range []struct {
		change func(o *Opts)
		want   []api.Option
	}{
		{func(o *Opts) { o.Mru = 1400 }, list(one(1, 5, 0x78))},
		{func(o *Opts) { o.Mru = 64 }, list(one(1, 0, 64))},
		{func(o *Opts) { o.Mru = 0x4000 }, list(one(1, 0x40, 0))},
		{func(o *Opts) { o.Mru = 0 }, list(one(1, 0, 0))},
		{func(o *Opts) { o.Mru = -1 }, list(one(1, 255, 255))},
		{func(o *Opts) { o.Mru = 1500 + 1<<16 }, list(one(1, 5, 0xdc))},
		{func(o *Opts) { o.Mru = math.MinInt + 3 }, list(one(1, 0, 3))},
		{func(o *Opts) { o.Accm = 0 }, list(one(2, 0, 0, 0, 0))},
		{func(o *Opts) { o.Accm = 0x123456789a }, list(one(2, 0x34, 0x56, 0x78, 0x9a))},
		{func(o *Opts) { o.Accm = -1 }, list(one(2, 255, 255, 255, 255))},
		{func(o *Opts) { o.Accm = math.MaxInt64 - 1 }, list(one(2, 255, 255, 255, 254))},
		{func(o *Opts) { o.Auth = api.MPap }, list(one(3, 0xc0, 0x23))},
		{func(o *Opts) { o.Auth = api.MChap }, list(one(3, 0xc2, 0x23, 5))},
		{func(o *Opts) { o.Auth = api.MEap }, list(one(3, 0xc2, 0x27))},
		{func(o *Opts) { o.Auth = 4 }, nil},
		{func(o *Opts) { o.Auth = -1 }, nil},
		{func(o *Opts) { o.Auth = math.MaxInt }, nil},
		{func(o *Opts) { o.Magic = 1 }, list(one(5, 0, 0, 0, 1))},
		{func(o *Opts) { o.Magic = 0xfedcba98 }, list(one(5, 0xfe, 0xdc, 0xba, 0x98))},
		{func(o *Opts) { o.Pfc = true }, list(one(7))},
		{func(o *Opts) { o.Acfc = true }, list(one(8))},
		{
			func(o *Opts) { *o = Opts{Mru: 600, Accm: 0xa0000, Auth: api.MChap, Magic: 7, Pfc: true, Acfc: true} },
			list(one(1, 2, 88), one(2, 0, 10, 0, 0), one(3, 0xc2, 0x23, 5), one(5, 0, 0, 0, 7), one(7), one(8)),
		},
		{func(o *Opts) { *o = Opts{} }, list(one(1, 0, 0), one(2, 0, 0, 0, 0))},
	} {
		o := Default()
		c.change(&o)
		if l := Options(o); !opt.Same(l, c.want) {
			t.Error(i, l)
		}
	}
}

func TestOptionsAnswersNewMemory(t *testing.T) {
	o := Opts{Mru: 600, Accm: 0xa0000, Auth: api.MChap, Magic: 7, Pfc: true, Acfc: true}
	want := Options(o)
	l := Options(o)
	for i := range l {
		_ = append(l[i].Data, 1, 2, 3, 4, 5, 6)
		clear(l[i].Data)
		l[i].Type = 99
	}
	if !opt.Same(Options(o), want) {
		t.Error("an answer is seen in a later one")
	}
}

func TestRead(t *testing.T) {
	for i, c := range []struct {
		l    []api.Option
		want func(o *Opts)
	}{
		{nil, func(o *Opts) {}},
		{list(one(1, 5, 0x78)), func(o *Opts) { o.Mru = 1400 }},
		{list(one(1, 0, 64)), func(o *Opts) { o.Mru = 64 }},
		{list(one(1, 0x40, 0)), func(o *Opts) { o.Mru = 16384 }},
		{list(one(1, 5, 0xdc)), func(o *Opts) {}},
		{list(one(2, 0, 0, 0, 0)), func(o *Opts) { o.Accm = 0 }},
		{list(one(2, 0x80, 0, 0, 1)), func(o *Opts) { o.Accm = 1<<31 + 1 }},
		{list(one(2, 255, 255, 255, 255)), func(o *Opts) {}},
		{list(one(3, 0xc0, 0x23)), func(o *Opts) { o.Auth = api.MPap }},
		{list(one(3, 0xc2, 0x23, 5)), func(o *Opts) { o.Auth = api.MChap }},
		{list(one(3, 0xc2, 0x27)), func(o *Opts) { o.Auth = api.MEap }},
		{list(one(5, 0, 0, 0, 1)), func(o *Opts) { o.Magic = 1 }},
		{list(one(5, 0x80, 0, 0, 0)), func(o *Opts) { o.Magic = 1 << 31 }},
		{list(one(7)), func(o *Opts) { o.Pfc = true }},
		{list(one(8)), func(o *Opts) { o.Acfc = true }},
		{
			list(one(8), one(5, 0, 0, 1, 0), one(7), one(3, 0xc2, 0x27), one(2, 0, 10, 0, 0), one(1, 1, 0)),
			func(o *Opts) { *o = Opts{256, 0xa0000, api.MEap, 256, true, true} },
		},
	} {
		want := Default()
		c.want(&want)
		if o, e := Read(c.l); o != want || e != api.OK {
			t.Error(i, o, e)
		}
	}
}

// wrongData are options that say what can not be.
func wrongData() []api.Option {
	l := list(one(1, 0, 63), one(1, 0, 0), one(1, 0x40, 1), one(1, 255, 255), one(5, 0, 0, 0, 0))
	for _, data := range append(noMethods(), nil, []byte{0xc0}) {
		l = append(l, one(3, data...))
	}
	for n := range 300 {
		data := bytes.Repeat([]byte{1}, n)
		for _, kind := range []int{1, 2, 5, 7, 8} {
			if n != map[int]int{1: 2, 2: 4, 5: 4}[kind] {
				l = append(l, one(kind, data...))
			}
		}
	}
	return l
}

func TestReadRefuses(t *testing.T) {
	refused := func(what string, l ...api.Option) {
		t.Helper()
		if o, e := Read(l); o != (Opts{}) || e != api.ErrOpt {
			t.Error(what, o, e)
		}
	}
	for _, kind := range oddKinds() {
		for _, data := range [][]byte{nil, {0}, {1, 0}, {0xc0, 0x23}, {1, 2, 3, 4}} {
			refused("no type", one(kind, data...))
			refused("no type", one(1, 1, 0), one(kind, data...))
			refused("no type", one(kind, data...), one(1, 1, 0))
		}
	}
	for _, o := range wrongData() {
		refused("data", o)
		refused("data", one(2, 1, 1, 1, 1), o)
		refused("data", o, one(8))
	}
	for _, o := range list(one(1, 5, 0xdc), one(2, 1, 1, 1, 1), one(3, 0xc0, 0x23), one(5, 1, 1, 1, 1), one(7), one(8)) {
		if _, e := Read(list(o)); e != api.OK {
			t.Error(o, e)
		}
		refused("twice", o, o)
		refused("thrice", o, o, o)
	}
	refused("twice", one(1, 1, 0), one(7), one(1, 2, 0))
	refused("twice", one(7), one(8), one(7))
}

func TestReadTakesEachMruThatCanBe(t *testing.T) {
	for n := range 1 << 16 {
		o, e := Read(list(one(OMru, byte(n>>8), byte(n))))
		if can := n >= api.MinMru && n <= api.MaxMru; can != (e == api.OK) || can && o.Mru != n {
			t.Error(n, o, e)
		}
	}
}

// P11.6

func TestReadTellsWhatOptionsWrote(t *testing.T) {
	var d draws = 1
	for range 20000 {
		o := d.drawnOpts()
		l := Options(o)
		if got, e := Read(l); got != o || e != api.OK {
			t.Fatal(o, l, got, e)
		}
		b, e := opt.Bytes(l...)
		if e != api.OK {
			t.Fatal(o, e)
		}
		read, e := opt.Options(b)
		if got, wrong := Read(read); got != o || e != api.OK || wrong != api.OK {
			t.Fatal(o, read, got, e, wrong)
		}
		for i := 1; i < len(l); i++ {
			if l[i-1].Type >= l[i].Type {
				t.Fatal(l)
			}
		}
	}
}

func TestListsAreNotChangedByRead(t *testing.T) {
	l := Options(Opts{Mru: 600, Accm: 0xa0000, Auth: api.MChap, Magic: 7, Pfc: true, Acfc: true})
	before := opt.Without(l)
	Read(l)
	for _, o := range l {
		Method(o.Data)
	}
	if !opt.Same(l, before) {
		t.Error(l)
	}
}

// P11.2

func TestWant(t *testing.T) {
	if o := Want(conf.Default(), 7); o != (Opts{Mru: 1500, Accm: 0xffffffff, Magic: 7, Pfc: true, Acfc: true}) {
		t.Error(o)
	}
	for i, c := range []struct {
		c     api.Conf
		magic uint32
		want  Opts
	}{
		{api.Conf{}, 7, Opts{}},
		{api.Conf{Magic: true}, 7, Opts{Magic: 7}},
		{api.Conf{Magic: true}, 0, Opts{}},
		{api.Conf{Magic: true}, math.MaxUint32, Opts{Magic: math.MaxUint32}},
		{api.Conf{Mru: 600}, 0, Opts{Mru: 600}},
		{api.Conf{Mru: -5, Asyncmap: -6, Require: 99}, 1, Opts{Mru: -5, Accm: -6, Auth: 99}},
		{api.Conf{Asyncmap: 0xa0000}, 0, Opts{Accm: 0xa0000}},
		{api.Conf{Require: api.MEap, Accept: []int{api.MPap}}, 0, Opts{Auth: api.MEap}},
		{api.Conf{Pfc: true}, 0, Opts{Pfc: true}},
		{api.Conf{Acfc: true}, 0, Opts{Acfc: true}},
	} {
		if o := Want(c.c, c.magic); o != c.want {
			t.Error(i, o)
		}
	}
}
