package ipv6cp

import (
	"math"
	"slices"
	"testing"

	"tether/api"
	"tether/conf"
	"tether/opt"
)

// draws is a chain of numbers that are the same at each run.
type draws uint64

func (d *draws) next(below int) int {
	*d = *d*6364136223846793005 + 1442695040888963407
	return int(uint64(*d)>>33) % below
}

// whole answers a number of 64 bits.
func (d *draws) whole() uint64 {
	return uint64(d.next(1<<31))<<40 ^ uint64(d.next(1<<31))<<20 ^ uint64(d.next(1<<31))
}

// number answers one of a few numbers that stand beside one another, beside 0 too, or any.
func (d *draws) number() uint64 {
	if d.next(8) == 0 {
		return d.whole()
	}
	return numbers()[d.next(len(numbers()))]
}

func numbers() []uint64 {
	return []uint64{0, 1, 2, 3, 5, 6, 7, 8, math.MaxUint64 - 2, math.MaxUint64 - 1, math.MaxUint64}
}

// one answers an option.
func one(kind int, data ...byte) api.Option {
	return api.Option{Type: kind, Data: data}
}

// list answers a list of options.
func list(l ...api.Option) []api.Option {
	return l
}

// asking answers an option that asks for an identifier.
func asking(id uint64) api.Option {
	return one(1, byte(id>>56), byte(id>>48), byte(id>>40), byte(id>>32), byte(id>>24), byte(id>>16), byte(id>>8), byte(id))
}

// oddKinds are types that are not borne.
func oddKinds() []int {
	return []int{math.MinInt, -255, -2, -1, 0, 2, 3, 255, 256, 257, 1<<32 + 1, math.MaxInt}
}

// local answers a configuration with an identifier of its own; 0: by a draw.
func local(id uint64) api.Conf {
	c := conf.Default()
	c.LocalId = id
	return c
}

// P17.1

func TestTypesOfOptions(t *testing.T) {
	if OId != 1 || OComp != 2 {
		t.Error(OId, OComp)
	}
}

func TestOptions(t *testing.T) {
	for _, c := range []struct {
		id   uint64
		want []byte
	}{
		{0, make([]byte, 8)},
		{1, []byte{0, 0, 0, 0, 0, 0, 0, 1}},
		{0x0102030405060708, []byte{1, 2, 3, 4, 5, 6, 7, 8}},
		{0xfffefdfcfbfaf9f8, []byte{255, 254, 253, 252, 251, 250, 249, 248}},
		{math.MaxUint64, slices.Repeat([]byte{255}, 8)},
	} {
		if got := Options(c.id); !opt.Same(got, list(one(1, c.want...))) {
			t.Error(c.id, got)
		}
	}
}

func TestOptionsAnswersNewMemory(t *testing.T) {
	first, second := Options(5), Options(5)
	_ = append(first[0].Data, 9, 9, 9, 9, 9, 9, 9, 9)
	clear(first[0].Data)
	first[0].Type = 9
	if !opt.Same(second, list(asking(5))) || !opt.Same(Options(5), second) {
		t.Error(second, Options(5))
	}
}

func TestWant(t *testing.T) {
	for _, c := range []struct{ id, draw, want uint64 }{
		{0, 0, 1},
		{0, 1, 1},
		{0, 7, 7},
		{0, math.MaxUint64, math.MaxUint64},
		{1, 0, 1},
		{5, 5, 5},
		{5, 7, 5},
		{math.MaxUint64, 7, math.MaxUint64},
	} {
		if got := Want(local(c.id), c.draw); got != c.want {
			t.Error(c, got)
		}
	}
	c := local(0)
	c.Ipv6, c.LocalIp = true, 7
	if got := Want(c, 9); got != 9 {
		t.Error(got)
	}
}

func TestGiven(t *testing.T) {
	for _, c := range []struct{ draw, mine, want uint64 }{
		{0, 1, 2},
		{0, 0, 1},
		{0, 2, 1},
		{0, math.MaxUint64, 1},
		{1, 0, 1},
		{1, 1, 2},
		{5, 5, 6},
		{4, 5, 4},
		{6, 5, 6},
		{math.MaxUint64, math.MaxUint64, 1},
		{math.MaxUint64, 0, math.MaxUint64},
		{math.MaxUint64, 1, math.MaxUint64},
		{1 << 63, 1 << 63, 1<<63 + 1},
		{math.MaxUint32, math.MaxUint32, 1 << 32},
		{1 << 32, 0, 1 << 32},
	} {
		if got := Given(c.draw, c.mine); got != c.want {
			t.Error(c, got)
		}
	}
}

// P17.4

func TestGivenIsNeitherNoneNorMine(t *testing.T) {
	var d draws = 1
	for range 100000 {
		draw, mine := d.number(), d.number()
		got := Given(draw, mine)
		if got == 0 || got == mine {
			t.Fatal(draw, mine, got)
		}
		for id := draw; id != got; id++ {
			if id != 0 && id != mine {
				t.Fatal(draw, mine, got)
			}
		}
	}
}

// P17.3

func TestDone(t *testing.T) {
	for _, c := range []struct {
		mine, theirs uint64
		want         api.Errno
	}{
		{1, 2, api.OK},
		{2, 1, api.OK},
		{1, 1 << 32, api.OK},
		{math.MaxUint64, 1, api.OK},
		{0, 1, api.ErrAddr},
		{1, 0, api.ErrAddr},
		{0, 0, api.ErrAddr},
		{1, 1, api.ErrTwice},
		{math.MaxUint64, math.MaxUint64, api.ErrTwice},
	} {
		if got := Done(c.mine, c.theirs); got != c.want {
			t.Error(c, got)
		}
	}
}

func TestAddress(t *testing.T) {
	for _, c := range []struct {
		id   uint64
		want [16]byte
	}{
		{0, [16]byte{0xfe, 0x80}},
		{1, [16]byte{0: 0xfe, 1: 0x80, 15: 1}},
		{0x0102030405060708, [16]byte{0xfe, 0x80, 0, 0, 0, 0, 0, 0, 1, 2, 3, 4, 5, 6, 7, 8}},
		{math.MaxUint64, [16]byte{0xfe, 0x80, 0, 0, 0, 0, 0, 0, 255, 255, 255, 255, 255, 255, 255, 255}},
	} {
		if got := Address(c.id); got != c.want {
			t.Error(c.id, got)
		}
	}
}
