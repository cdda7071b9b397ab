package ccp

import (
	"math"
	"testing"

	"tether/api"
	"tether/conf"
	"tether/opt"
)

// draws is a chain of numbers that are the same at each run.
type draws uint64

func (d *draws) next(below int) int {
	*d = *d*6364136223846793005 + 1442695040888963407
	return int(uint64(*d)>>33) % below
}

// one answers an option.
func one(kind int, data ...byte) api.Option {
	return api.Option{Type: kind, Data: data}
}

// list answers a list of options.
func list(l ...api.Option) []api.Option {
	return l
}

// deflate and bsdcomp answer options that ask for bits.
func deflate(bits int) api.Option {
	return one(26, []byte{0x08, 0x18, 0x28, 0x38, 0x48, 0x58, 0x68, 0x78}[bits-8], 0)
}

func bsdcomp(bits int) api.Option {
	return one(21, []byte{0x29, 0x2a, 0x2b, 0x2c, 0x2d, 0x2e, 0x2f}[bits-9])
}

// with answers a configuration that bears bits.
func with(deflate, bsd int) api.Conf {
	c := conf.Default()
	c.Deflate, c.Bsd, c.MaxFailure = deflate, bsd, 3
	return c
}

// oddKinds are types that are none of this package's.
func oddKinds() []int {
	return []int{math.MinInt, -26, -21, -1, 0, 1, 2, 3, 17, 20, 22, 25, 27, 255, 256, 256 + 21, 256 + 26, 1<<32 + 26, math.MaxInt}
}

// oddBits are bits that no method has.
func oddBits() []int {
	return []int{math.MinInt, -12, -1, 1, 7, 16, 17, 32, 256 + 12, 1<<32 + 12, math.MaxInt}
}

// P22.1

func TestTypesOfOptions(t *testing.T) {
	if OBsd != 21 || ODeflate != 26 {
		t.Error(OBsd, ODeflate)
	}
}

func TestOptions(t *testing.T) {
	for _, c := range []struct {
		o    Opts
		want []api.Option
	}{
		{Opts{}, nil},
		{Opts{15, 12}, list(one(26, 0x78, 0), one(21, 0x2c))},
		{Opts{8, 0}, list(one(26, 0x08, 0))},
		{Opts{12, 0}, list(one(26, 0x48, 0))},
		{Opts{0, 9}, list(one(21, 0x29))},
		{Opts{0, 15}, list(one(21, 0x2f))},
		{Opts{0, 8}, nil},
		{Opts{8, 8}, list(one(26, 0x08, 0))},
		{Opts{9, 9}, list(one(26, 0x18, 0), one(21, 0x29))},
	} {
		if got := Options(c.o); !opt.Same(got, c.want) {
			t.Error(c.o, got)
		}
	}
	for _, n := range oddBits() {
		for o, want := range map[Opts][]api.Option{
			{n, n}:  nil,
			{n, 12}: list(one(21, 0x2c)),
			{12, n}: list(one(26, 0x48, 0)),
			{0, n}:  nil,
			{n, 0}:  nil,
		} {
			if got := Options(o); !opt.Same(got, want) {
				t.Error(o, got)
			}
		}
	}
}

func TestReadOfEachByte(t *testing.T) {
	for n := range 256 {
		var deflates, bsds int
		for bits := 8; bits <= 15; bits++ {
			if n == (bits-8)*16+8 {
				deflates = bits
			}
			if n == 32+bits && bits > 8 {
				bsds = bits
			}
		}
		for second := range 256 {
			o, e := Read(list(one(26, byte(n), byte(second))))
			if can := deflates > 0 && second == 0; can != (e == api.OK) || can && o != (Opts{Deflate: deflates}) {
				t.Error(n, second, o, e)
			}
		}
		if o, e := Read(list(one(21, byte(n)))); (bsds > 0) != (e == api.OK) || bsds > 0 && o != (Opts{Bsd: bsds}) {
			t.Error(n, o, e)
		}
	}
}

func TestRead(t *testing.T) {
	for i, c := range []struct {
		l    []api.Option
		want Opts
	}{
		{nil, Opts{}},
		{list(), Opts{}},
		{list(deflate(15), bsdcomp(12)), Opts{15, 12}},
		{list(bsdcomp(9), deflate(8)), Opts{8, 9}},
	} {
		if o, e := Read(c.l); o != c.want || e != api.OK {
			t.Error(i, o, e)
		}
	}
	for i, l := range [][]api.Option{
		list(deflate(8), deflate(8)), list(deflate(8), deflate(9)), list(bsdcomp(9), bsdcomp(9)),
		list(deflate(8), bsdcomp(9), deflate(8)), list(bsdcomp(12), deflate(8), bsdcomp(13)),
		list(one(26)), list(one(26, 0x78)), list(one(26, 0x78, 0, 0)), list(one(21)), list(one(21, 0x2c, 0)),
		list(deflate(8), one(21)), list(one(26), bsdcomp(9)), list(one(26, 0x2c)), list(one(21, 0x78, 0)),
		list(one(26, 0x2c, 0)), list(one(21, 0x48)),
	} {
		if o, e := Read(l); o != (Opts{}) || e != api.ErrOpt {
			t.Error(i, o, e)
		}
	}
	for _, kind := range oddKinds() {
		for _, data := range [][]byte{nil, {0x2c}, {0x78, 0}} {
			for _, l := range [][]api.Option{list(one(kind, data...)), list(deflate(8), one(kind, data...)), list(one(kind, data...), bsdcomp(9))} {
				if o, e := Read(l); o != (Opts{}) || e != api.ErrOpt {
					t.Error(kind, data, o, e)
				}
			}
		}
	}
}

func TestWant(t *testing.T) {
	if o := Want(conf.Default()); o != (Opts{}) {
		t.Error(o)
	}
	for _, n := range append(oddBits(), 0, 8, 9, 12, 15) {
		if o := Want(with(n, 11)); o != (Opts{n, 11}) {
			t.Error(o)
		}
		if o := Want(with(13, n)); o != (Opts{13, n}) {
			t.Error(o)
		}
	}
}

func TestMethod(t *testing.T) {
	for _, n := range append(oddBits(), 8, 9, 12, 15) {
		for o, want := range map[Opts]int{
			{n, 0}: 26, {n, 12}: 26, {n, n}: 26, {0, n}: 21,
		} {
			if got := Method(o); got != want {
				t.Error(o, got)
			}
		}
	}
	if got := Method(Opts{}); got != 0 {
		t.Error(got)
	}
}

// P22.10

func TestReadTellsWhatOptionsSay(t *testing.T) {
	for _, a := range []int{0, 8, 9, 10, 11, 12, 13, 14, 15} {
		for _, b := range []int{0, 9, 10, 11, 12, 13, 14, 15} {
			l := Options(Opts{a, b})
			if o, e := Read(l); o != (Opts{a, b}) || e != api.OK {
				t.Error(a, b, o, e)
			}
			l = append(l, one(99))
			for i := range l {
				clear(l[i].Data)
			}
			if o, e := Read(Options(Opts{a, b})); o != (Opts{a, b}) || e != api.OK {
				t.Error(a, b, o, e, "memory is shared")
			}
		}
	}
}
