package ipcp

import (
	"math"
	"testing"

	"tether/api"
	"tether/conf"
	"tether/opt"
)

// draws is a chain of numbers that are the same at each run.
type draws uint64

func (d *draws) next(below int) int {
	*d = *d*6364136223846793005 + 1442695040888963407
	return int(uint64(*d)>>33) % below
}

// address answers one of a few addresses, 0 often among them.
func (d *draws) address() int64 {
	return []int64{0, 0, 0x0a000001, 0x0a000002, 0x0a000003, math.MaxUint32}[d.next(6)]
}

// one answers an option.
func one(kind int, data ...byte) api.Option {
	return api.Option{Type: kind, Data: data}
}

// list answers a list of options.
func list(l ...api.Option) []api.Option {
	return l
}

// oddKinds are types that are none of this package's that are borne.
func oddKinds() []int {
	return []int{math.MinInt, -131, -3, -1, 0, 1, 2, 4, 128, 130, 132, 255, 256, 259, 256 + 129, 1<<32 + 3, math.MaxInt}
}

// noAddrs are numbers that are no addresses.
func noAddrs() []int64 {
	return []int64{math.MinInt64, -1 << 32, -2, -1, 1 << 32, 1<<32 + 1, math.MaxInt64}
}

// P15.1

func TestTypesOfOptions(t *testing.T) {
	if OComp != 2 || OAddr != 3 || ODns1 != 129 || ODns2 != 131 {
		t.Error(OComp, OAddr, ODns1, ODns2)
	}
}

func TestOptions(t *testing.T) {
	for _, c := range []struct {
		o    Opts
		want []api.Option
	}{
		{Opts{}, list(one(3, 0, 0, 0, 0), one(129, 0, 0, 0, 0), one(131, 0, 0, 0, 0))},
		{Opts{-1, -1, -1}, nil},
		{Opts{0x0a000001, -1, -1}, list(one(3, 10, 0, 0, 1))},
		{Opts{-1, 0x01020304, -1}, list(one(129, 1, 2, 3, 4))},
		{Opts{-1, -1, 0xfffefdfc}, list(one(131, 255, 254, 253, 252))},
		{Opts{1, math.MaxUint32, 1 << 31}, list(one(3, 0, 0, 0, 1), one(129, 255, 255, 255, 255), one(131, 128, 0, 0, 0))},
	} {
		if got := Options(c.o); !opt.Same(got, c.want) {
			t.Error(c.o, got)
		}
	}
	for _, n := range noAddrs() {
		for o, want := range map[Opts][]api.Option{
			{n, n, n}: nil,
			{n, 2, 3}: list(one(129, 0, 0, 0, 2), one(131, 0, 0, 0, 3)),
			{1, n, 3}: list(one(3, 0, 0, 0, 1), one(131, 0, 0, 0, 3)),
			{1, 2, n}: list(one(3, 0, 0, 0, 1), one(129, 0, 0, 0, 2)),
		} {
			if got := Options(o); !opt.Same(got, want) {
				t.Error(o, got)
			}
		}
	}
}

func TestRead(t *testing.T) {
	for _, c := range []struct {
		l    []api.Option
		want Opts
	}{
		{nil, Opts{-1, -1, -1}},
		{list(), Opts{-1, -1, -1}},
		{list(one(3, 0, 0, 0, 0)), Opts{0, -1, -1}},
		{list(one(131, 1, 2, 3, 4)), Opts{-1, -1, 0x01020304}},
		{list(one(129, 255, 255, 255, 255), one(3, 10, 0, 0, 1)), Opts{0x0a000001, math.MaxUint32, -1}},
		{list(one(131, 0, 0, 0, 3), one(129, 0, 0, 0, 2), one(3, 0, 0, 0, 1)), Opts{1, 2, 3}},
	} {
		if got, e := Read(c.l); got != c.want || e != api.OK {
			t.Error(c.l, got, e)
		}
	}
}

func refuses(t *testing.T, l []api.Option) {
	t.Helper()
	if got, e := Read(l); got != (Opts{}) || e != api.ErrOpt {
		t.Error(l, got, e)
	}
}

func TestReadRefuses(t *testing.T) {
	good := one(3, 1, 1, 1, 1)
	for _, kind := range oddKinds() {
		refuses(t, list(one(kind, 1, 2, 3, 4)))
		refuses(t, list(one(kind)))
		refuses(t, list(good, one(kind, 1, 2, 3, 4)))
	}
	for _, kind := range []int{3, 129, 131} {
		for n := range 300 {
			if n != 4 {
				refuses(t, list(one(kind, make([]byte, n)...)))
			}
		}
		for _, first := range []byte{0, 1, 255} { // 0 and 255.255.255.255 stand there, too
			a := one(kind, first, first, first, first)
			refuses(t, list(a, a))
			refuses(t, list(a, one(kind, 9, 9, 9, 9)))
			refuses(t, list(one(kind, 9, 9, 9, 9), one(134-kind/3), a))
		}
	}
	refuses(t, list(good, one(129, 0, 0, 0, 2), one(131, 0, 0, 0, 3), good))
}

func TestWant(t *testing.T) {
	c := conf.Default()
	c.Dns1, c.Dns2, c.RemoteIp = 5, 6, 7
	for _, own := range []int64{0, 1, 0x0a000001, math.MaxUint32} {
		c.LocalIp = own
		c.UseDns = false
		if got := Want(c); got != (Opts{own, -1, -1}) {
			t.Error(got)
		}
		c.UseDns = true
		if got := Want(c); got != (Opts{own, 0, 0}) {
			t.Error(got)
		}
	}
}

// P15.4

func TestDone(t *testing.T) {
	for _, c := range []struct {
		mine, theirs int64
		want         api.Errno
	}{
		{1, 2, api.OK},
		{2, 1, api.OK},
		{1, -1, api.OK},
		{math.MaxUint32, 1, api.OK},
		{1, math.MaxUint32, api.OK},
		{math.MaxUint32, -1, api.OK},
		{1, 1, api.ErrTwice},
		{math.MaxUint32, math.MaxUint32, api.ErrTwice},
		{0, 1, api.ErrAddr},
		{-1, 1, api.ErrAddr},
		{1, 0, api.ErrAddr},
		{0, 0, api.ErrAddr},
		{-1, -1, api.ErrAddr},
		{-1, 0, api.ErrAddr},
		{0, -1, api.ErrAddr},
	} {
		for _, dns := range []int64{-1, 0, 1, 2, math.MinInt64, math.MaxInt64} {
			if e := Done(Opts{c.mine, dns, dns}, Opts{c.theirs, dns, dns}); e != c.want {
				t.Error(c, dns, e)
			}
		}
	}
	for _, n := range noAddrs() {
		for _, other := range []int64{0, 1, n} {
			if e := Done(Opts{Addr: n}, Opts{Addr: other}); e != api.ErrAddr {
				t.Error(n, other, e)
			}
			if e := Done(Opts{Addr: other}, Opts{Addr: n}); e != api.ErrAddr && (n != -1 || other != 1) {
				t.Error(other, n, e)
			}
		}
	}
}

// P15.5

func TestReadOfOptionsIsWhatWasAsked(t *testing.T) {
	edges := []int64{-1, 0, 1, 255, 256, 0x7fffffff, 0x80000000, math.MaxUint32}
	for _, a := range edges {
		for _, b := range edges {
			for _, c := range edges {
				o := Opts{a, b, c}
				if got, e := Read(Options(o)); got != o || e != api.OK {
					t.Error(o, got, e)
				}
			}
		}
	}
}

// Rule 4

func TestOptionsAnswersNewMemory(t *testing.T) {
	o := Opts{1, 2, 3}
	first, second := Options(o), Options(o)
	for i := range first {
		_ = append(first[i].Data, 7, 7, 7, 7, 7)
		clear(first[i].Data)
	}
	if !opt.Same(second, list(one(3, 0, 0, 0, 1), one(129, 0, 0, 0, 2), one(131, 0, 0, 0, 3))) {
		t.Error(second)
	}
}
