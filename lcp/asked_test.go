package lcp

import (
	"math"
	"testing"

	"tether/api"
	"tether/conf"
	"tether/opt"
)

// P11.4

func TestNak(t *testing.T) {
	all := Opts{Mru: 1000, Accm: 0x0f, Auth: api.MChap, Magic: 7, Pfc: true, Acfc: true}
	for i, c := range []struct {
		o    Opts
		l    []api.Option
		want func(o *Opts)
	}{
		{all, nil, func(o *Opts) {}},
		{all, list(one(1, 2, 0)), func(o *Opts) { o.Mru = 512 }},
		{all, list(one(1, 3, 0xe8)), func(o *Opts) {}},
		{all, list(one(1, 0, 64)), func(o *Opts) { o.Mru = 64 }},
		{all, list(one(1, 0, 63)), func(o *Opts) { o.Mru = 64 }},
		{all, list(one(1, 0, 0)), func(o *Opts) { o.Mru = 64 }},
		{all, list(one(1, 4, 176)), func(o *Opts) { o.Mru = 1200 }},
		{all, list(one(1, 4, 177)), func(o *Opts) { o.Mru = 1200 }},
		{all, list(one(1, 255, 255)), func(o *Opts) { o.Mru = 1200 }},
		{Default(), list(one(1, 2, 0)), func(o *Opts) { o.Mru = 512 }}, // what was not asked for is told, too
		{all, list(one(2, 0, 0, 0, 0xf0)), func(o *Opts) { o.Accm = 0xff }},
		{all, list(one(2, 0xf0, 0, 0, 0x03)), func(o *Opts) { o.Accm = 0xf000000f }},
		{all, list(one(2, 0, 0, 0, 0x0e)), func(o *Opts) {}},
		{all, list(one(2, 255, 255, 255, 255)), func(o *Opts) { o.Accm = math.MaxUint32 }},
		{Default(), list(one(2, 0, 0, 0, 1)), func(o *Opts) {}},
		{Opts{Mru: 1500}, list(one(2, 0, 0, 1, 0)), func(o *Opts) { o.Accm = 256 }},
		{all, list(one(5, 1, 2, 3, 4)), func(o *Opts) { o.Magic = 9 }},
		{all, list(one(5, 0, 0, 0, 0)), func(o *Opts) { o.Magic = 9 }},
		{all, list(one(5, 0, 0, 0, 7)), func(o *Opts) { o.Magic = 9 }},
		{Default(), list(one(5, 1, 2, 3, 4)), func(o *Opts) {}},
		{all, list(one(3, 0xc0, 0x23)), func(o *Opts) {}},
		{Default(), list(one(3, 0xc0, 0x23), one(7), one(8)), func(o *Opts) {}},
		{all, list(one(7, 1), one(8, 1), one(3)), func(o *Opts) {}},
		{all, list(one(1, 1, 0), one(1, 2, 0)), func(o *Opts) { o.Mru = 512 }},
		{all, list(one(1, 2, 0), one(1, 0xff, 0)), func(o *Opts) { o.Mru = 1200 }},
		{all, list(one(1, 2, 0), one(1, 3, 0xe8)), func(o *Opts) {}}, // the last one is as it was
		{all, list(one(2, 0, 0, 0, 0xf0), one(7), one(2, 0, 0, 1, 0)), func(o *Opts) { o.Accm = 0x10f }},
		{all, list(one(1, 2, 0), one(1, 3)), func(o *Opts) { o.Mru = 512 }}, // the last one that may be
		{all, list(one(2, 0, 0, 0, 0xf0), one(2, 0, 0, 0, 0, 0)), func(o *Opts) { o.Accm = 0xff }},
		{all, list(one(5, 1, 2, 3, 4), one(5)), func(o *Opts) { o.Magic = 9 }},
		{
			all, list(one(8), one(5, 0, 0, 0, 1), one(3, 0xc2, 0x27), one(2, 0, 10, 0, 0), one(1, 1, 0), one(99, 1)),
			func(o *Opts) { o.Mru, o.Accm, o.Magic = 256, 0xa000f, 9 },
		},
	} {
		want := c.o
		c.want(&want)
		before := opt.Without(c.l)
		o, changed := Nak(but(func(c *api.Conf) { c.Mru = 1200 }), c.o, c.l, 9)
		if o != want || changed != (want != c.o) {
			t.Error(i, o, changed)
		}
		if !opt.Same(c.l, before) {
			t.Error(i, "what was handed in is changed")
		}
	}
}

func TestNakPassesOverDataOfAnotherLength(t *testing.T) {
	o := Opts{Mru: 1000, Accm: 0, Magic: 7}
	for n := range 300 {
		for kind, size := range map[int]int{1: 2, 2: 4, 5: 4} {
			data := make([]byte, n)
			for i := range data {
				data[i] = 3
			}
			if got, changed := Nak(conf.Default(), o, list(one(kind, data...)), 9); changed != (n == size) || changed != (got != o) {
				t.Error(kind, n, got, changed)
			}
		}
	}
}

func TestNakPassesOverTypesThatAreNone(t *testing.T) {
	o := Opts{Mru: 1000, Accm: 0, Magic: 7}
	for _, kind := range oddKinds() {
		for _, data := range [][]byte{nil, {2, 0}, {1, 1, 1, 1}} {
			if got, changed := Nak(conf.Default(), o, list(one(kind, data...)), 9); changed || got != o {
				t.Error(kind, got)
			}
		}
	}
}

func TestNakOfOtherBounds(t *testing.T) {
	l := list(one(1, 0x40, 1))
	for _, c := range []struct{ mru, want int }{
		{16384, 16384}, {20000, 16385}, {math.MaxInt, 16385}, {64, 64}, {63, 64}, {0, 64}, {-1, 64}, {math.MinInt, 64},
	} {
		if o, changed := Nak(api.Conf{Mru: c.mru}, Opts{Mru: 1}, l, 9); o.Mru != c.want || !changed {
			t.Error(c.mru, o)
		}
	}
	if o, changed := Nak(api.Conf{}, Opts{Magic: 7}, list(one(5, 1, 1, 1, 1)), 0); o.Magic != 0 || !changed {
		t.Error(o)
	}
	if o, changed := Nak(api.Conf{}, Opts{Magic: 7}, list(one(5, 1, 1, 1, 1)), 7); o.Magic != 7 || changed {
		t.Error(o)
	}
	if o, changed := Nak(api.Conf{}, Opts{Accm: 1 << 40}, list(one(2, 0, 0, 0, 1)), 0); o.Accm != 1<<40+1 || !changed {
		t.Error(o)
	}
}

func TestReject(t *testing.T) {
	all := Opts{Mru: 1000, Accm: 15, Auth: api.MChap, Magic: 7, Pfc: true, Acfc: true}
	for i, c := range []struct {
		require int
		l       []api.Option
		want    func(o *Opts)
		ok      bool
	}{
		{api.MChap, nil, func(o *Opts) {}, true},
		{api.MChap, list(one(1, 1, 1)), func(o *Opts) { o.Mru = 1500 }, true},
		{api.MChap, list(one(2)), func(o *Opts) { o.Accm = math.MaxUint32 }, true},
		{api.MChap, list(one(5, 0, 0, 0, 7)), func(o *Opts) { o.Magic = 0 }, true},
		{api.MChap, list(one(7)), func(o *Opts) { o.Pfc = false }, true},
		{api.MChap, list(one(8, 1, 2, 3)), func(o *Opts) { o.Acfc = false }, true},
		{api.MChap, list(one(8), one(8), one(4), one(1)), func(o *Opts) { o.Acfc, o.Mru = false, 1500 }, true},
		{api.MChap, list(one(1), one(2), one(5), one(7), one(8)), func(o *Opts) { *o = Default(); o.Auth = api.MChap }, true},
		{api.MChap, list(one(3)), func(o *Opts) {}, false},
		{api.MPap, list(one(1), one(2), one(3, 0xc0, 0x23), one(7)), func(o *Opts) {}, false},
		{-1, list(one(8), one(3)), func(o *Opts) {}, false},
		{0, list(one(3, 0xc0, 0x23)), func(o *Opts) {}, true},
		{0, list(one(3), one(7)), func(o *Opts) { o.Pfc = false }, true},
	} {
		want := all
		c.want(&want)
		before := opt.Without(c.l)
		o, ok := Reject(but(func(k *api.Conf) { k.Require = c.require }), all, c.l)
		if o != want || ok != c.ok {
			t.Error(i, o, ok)
		}
		if !opt.Same(c.l, before) {
			t.Error(i, "what was handed in is changed")
		}
	}
	for _, kind := range oddKinds() {
		if o, ok := Reject(but(func(c *api.Conf) { c.Require = api.MChap }), all, list(one(kind, 1))); o != all || !ok {
			t.Error(kind, o, ok)
		}
	}
	if o, ok := Reject(conf.Default(), Default(), list(one(1), one(2), one(5), one(7), one(8))); o != Default() || !ok {
		t.Error(o, ok)
	}
}

// P11.9

func TestWhatIsAskedBehindAnAnswerCanBe(t *testing.T) {
	var d draws = 6
	changes := 0
	for range 60000 {
		c, o, l := d.drawnConf(), d.drawnOpts(), d.drawnRequest()
		magic := uint32(d.next(3))
		nakked, changed := Nak(c, o, l, magic)
		rejected, going := Reject(c, o, l)
		for _, asks := range []Opts{nakked, rejected} {
			if read, e := Read(Options(asks)); read != asks || e != api.OK {
				t.Fatal(o, l, asks, e)
			}
		}
		_, named := opt.Find(l, OAuth)
		if changed != (nakked != o) || going == (named && c.Require != 0) || !going && rejected != o {
			t.Fatal(o, l, nakked, changed, rejected, going)
		}
		if changed {
			changes++
		}
	}
	if changes < 500 {
		t.Error(changes)
	}
}
