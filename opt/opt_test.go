package opt

import (
	"bytes"
	"math"
	"slices"
	"testing"

	"tether/api"
)

// draws is a chain of numbers that are the same at each run.
type draws uint64

func (d *draws) next(below int) int {
	*d = *d*6364136223846793005 + 1442695040888963407
	return int(uint64(*d)>>33) % below
}

// some answers that many drawn bytes.
func (d *draws) some(n int) []byte {
	b := make([]byte, n)
	for i := range b {
		b[i] = byte(d.next(256))
	}
	return b
}

func samePacket(a, b api.Packet) bool {
	return a.Code == b.Code && a.Id == b.Id && bytes.Equal(a.Data, b.Data)
}

func isNoPacket(p api.Packet) bool {
	return p.Code == 0 && p.Id == 0 && p.Data == nil
}

// P9.1

func TestPack(t *testing.T) {
	for _, c := range []struct {
		p    api.Packet
		want []byte
	}{
		{api.Packet{Code: 1, Id: 1}, []byte{1, 1, 0, 4}},
		{api.Packet{Code: 0, Id: 255, Data: []byte{7}}, []byte{0, 255, 0, 5, 7}},
		{api.Packet{Code: 255, Id: 0, Data: make([]byte, 252)}, append([]byte{255, 0, 1, 0}, make([]byte, 252)...)},
		{api.Packet{Code: 9, Id: 8, Data: bytes.Repeat([]byte{5}, 16380)}, append([]byte{9, 8, 0x40, 0}, bytes.Repeat([]byte{5}, 16380)...)},
	} {
		if b, e := Pack(c.p); !bytes.Equal(b, c.want) || e != api.OK {
			t.Error(c.p.Code, len(b), e)
		}
	}
}

func TestPackRefuses(t *testing.T) {
	long := make([]byte, api.MaxData+1)
	for _, n := range []int{math.MinInt, -256, -1, 256, 257, 1 << 32, math.MaxInt} {
		for _, p := range []api.Packet{{Code: n}, {Id: n}, {Code: n, Id: n}, {Code: n, Data: long}, {Id: n, Data: long}} {
			if b, e := Pack(p); len(b) != 0 || e != api.ErrCode {
				t.Error(p.Code, p.Id, len(b), e)
			}
		}
	}
	for _, data := range [][]byte{long, make([]byte, 1<<16), make([]byte, 1<<20)} {
		if b, e := Pack(api.Packet{Code: 1, Id: 2, Data: data}); len(b) != 0 || e != api.ErrSize {
			t.Error(len(b), e)
		}
	}
}

func TestUnpack(t *testing.T) {
	for _, c := range []struct {
		b    []byte
		want api.Packet
	}{
		{[]byte{1, 1, 0, 4}, api.Packet{Code: 1, Id: 1}},
		{[]byte{1, 1, 0, 4, 9, 9}, api.Packet{Code: 1, Id: 1}},
		{[]byte{255, 7, 0, 6, 1, 2}, api.Packet{Code: 255, Id: 7, Data: []byte{1, 2}}},
		{[]byte{0, 255, 0, 6, 1, 2, 3}, api.Packet{Code: 0, Id: 255, Data: []byte{1, 2}}},
		{append([]byte{5, 6, 1, 4}, make([]byte, 300)...), api.Packet{Code: 5, Id: 6, Data: make([]byte, 256)}},
		{append([]byte{5, 6, 0x40, 0}, make([]byte, 16380)...), api.Packet{Code: 5, Id: 6, Data: make([]byte, 16380)}},
	} {
		if p, e := Unpack(c.b); !samePacket(p, c.want) || e != api.OK {
			t.Error(c.want.Code, p.Code, p.Id, len(p.Data), e)
		}
	}
}

func TestUnpackRefuses(t *testing.T) {
	for _, c := range []struct {
		b    []byte
		want api.Errno
	}{
		{nil, api.ErrShort},
		{[]byte{1}, api.ErrShort},
		{[]byte{1, 1}, api.ErrShort},
		{[]byte{1, 1, 0}, api.ErrShort},
		{[]byte{1, 1, 255}, api.ErrShort},
		{[]byte{1, 1, 0, 0}, api.ErrSize},
		{[]byte{1, 1, 0, 3}, api.ErrSize},
		{[]byte{1, 1, 0, 3, 1, 1, 1}, api.ErrSize},
		{[]byte{1, 1, 0x40, 1}, api.ErrSize}, // ahead of what is missing
		{[]byte{1, 1, 255, 255}, api.ErrSize},
		{append([]byte{1, 1, 0x40, 1}, make([]byte, 20000)...), api.ErrSize},
		{[]byte{1, 1, 0, 5}, api.ErrShort},
		{[]byte{1, 1, 0x40, 0}, api.ErrShort},
		{append([]byte{1, 1, 0x40, 0}, make([]byte, 16379)...), api.ErrShort},
	} {
		if p, e := Unpack(c.b); !isNoPacket(p) || e != c.want {
			t.Error(c.b[:min(len(c.b), 8)], p.Code, e)
		}
	}
}

func TestPacketsShareNothing(t *testing.T) {
	p := api.Packet{Code: 3, Id: 4, Data: []byte{1, 2, 3}}
	b, _ := Pack(p)
	clear(b)
	b = append(b, 9)
	if !bytes.Equal(p.Data, []byte{1, 2, 3}) {
		t.Error(p.Data, b)
	}
	b, _ = Pack(p)
	q, _ := Unpack(b)
	clear(q.Data)
	q.Data = append(q.Data, 9)
	if !bytes.Equal(b, []byte{3, 4, 0, 7, 1, 2, 3}) {
		t.Error(b)
	}
	q, _ = Unpack(b)
	clear(b)
	if !bytes.Equal(q.Data, []byte{1, 2, 3}) {
		t.Error(q.Data)
	}
}

// P9.2

func TestBytes(t *testing.T) {
	for i, c := range []struct {
		l    []api.Option
		want []byte
	}{
		{nil, nil},
		{[]api.Option{}, nil},
		{[]api.Option{{Type: 1, Data: []byte{5, 0xdc}}, {Type: 7}}, []byte{1, 4, 5, 0xdc, 7, 2}},
		{[]api.Option{{Type: 255}, {Type: 0, Data: []byte{1}}, {Type: 255}}, []byte{255, 2, 0, 3, 1, 255, 2}},
		{[]api.Option{{Type: 9, Data: make([]byte, 253)}}, append([]byte{9, 255}, make([]byte, 253)...)},
		{slices.Repeat([]api.Option{{Type: 2}}, 32), bytes.Repeat([]byte{2, 2}, 32)},
		{slices.Repeat([]api.Option{{Type: 2, Data: make([]byte, 253)}}, 32), bytes.Repeat(append([]byte{2, 255}, make([]byte, 253)...), 32)},
	} {
		if b, e := Bytes(c.l...); !bytes.Equal(b, c.want) || e != api.OK {
			t.Error(i, b, e)
		}
	}
	if b, e := Bytes(); len(b) != 0 || e != api.OK {
		t.Error(b, e)
	}
}

func TestBytesRefuses(t *testing.T) {
	many := slices.Repeat([]api.Option{{Type: 2}}, 33)
	for _, l := range [][]api.Option{many, slices.Repeat(many, 1000)} {
		if b, e := Bytes(l...); len(b) != 0 || e != api.ErrFull {
			t.Error(len(l), len(b), e)
		}
	}
	for _, bad := range []api.Option{{Type: -1}, {Type: 256}, {Type: math.MinInt}, {Type: math.MaxInt}, {Type: 1, Data: make([]byte, 254)}, {Type: 1, Data: make([]byte, 1<<16)}} {
		for _, l := range [][]api.Option{{bad}, {{Type: 1}, bad}, {bad, {Type: 1}}, append(slices.Clone(many), bad)} {
			if b, e := Bytes(l...); len(b) != 0 || e != api.ErrOpt {
				t.Error(bad.Type, len(l), b, e)
			}
		}
	}
}

func TestOptions(t *testing.T) {
	for i, c := range []struct {
		b    []byte
		want []api.Option
	}{
		{nil, nil},
		{[]byte{1, 4, 5, 0xdc, 7, 2}, []api.Option{{Type: 1, Data: []byte{5, 0xdc}}, {Type: 7}}},
		{[]byte{0, 2, 255, 3, 9, 0, 2}, []api.Option{{Type: 0}, {Type: 255, Data: []byte{9}}, {Type: 0}}},
		{append([]byte{9, 255}, make([]byte, 253)...), []api.Option{{Type: 9, Data: make([]byte, 253)}}},
		{bytes.Repeat([]byte{2, 2}, 32), slices.Repeat([]api.Option{{Type: 2}}, 32)},
	} {
		if l, e := Options(c.b); !slices.EqualFunc(l, c.want, alike) || e != api.OK {
			t.Error(i, l, e)
		}
	}
}

func TestOptionsRefuses(t *testing.T) {
	many := bytes.Repeat([]byte{2, 2}, 32)
	for i, c := range []struct {
		b    []byte
		want api.Errno
	}{
		{[]byte{1}, api.ErrShort},
		{[]byte{1, 2, 3}, api.ErrShort},
		{[]byte{1, 0}, api.ErrOpt},
		{[]byte{1, 1}, api.ErrOpt},
		{[]byte{1, 1, 1, 1}, api.ErrOpt},
		{[]byte{7, 2, 1, 0}, api.ErrOpt},
		{[]byte{1, 3}, api.ErrShort},
		{[]byte{1, 5, 0}, api.ErrShort},
		{[]byte{1, 255}, api.ErrShort},
		{[]byte{1, 5, 0, 1}, api.ErrShort},
		{[]byte{1, 5, 0, 1, 1, 1, 1}, api.ErrOpt},
		{append(slices.Clone(many), 1), api.ErrFull},
		{append(slices.Clone(many), 1, 0), api.ErrFull},
		{append(slices.Clone(many), 1, 2), api.ErrFull},
		{append(slices.Clone(many[2:]), 1), api.ErrShort},
		{append(slices.Clone(many[2:]), 1, 0), api.ErrOpt},
		{bytes.Repeat(many, 1000), api.ErrFull},
		{append([]byte{1, 9}, many[:6]...), api.ErrShort},
	} {
		if l, e := Options(c.b); len(l) != 0 || e != c.want {
			t.Error(i, l, e)
		}
	}
}

func TestOptionsShareNothing(t *testing.T) {
	b := []byte{1, 4, 5, 6, 2, 3, 7}
	l, _ := Options(b)
	l[0].Data = append(l[0].Data, 9, 9, 9)
	clear(l[0].Data)
	if !bytes.Equal(l[1].Data, []byte{7}) || !bytes.Equal(b, []byte{1, 4, 5, 6, 2, 3, 7}) {
		t.Error(l, b)
	}
	clear(b)
	if !bytes.Equal(l[1].Data, []byte{7}) {
		t.Error(l)
	}
	out, _ := Bytes(l...)
	clear(out)
	if !bytes.Equal(l[1].Data, []byte{7}) {
		t.Error(l)
	}
}

// P9.6

func TestPacketsAreReadAsTheyWere(t *testing.T) {
	var d draws = 1
	for range 5000 {
		size := d.next(40)
		if d.next(50) == 0 {
			size = d.next(api.MaxData + 1)
		}
		p := api.Packet{Code: d.next(256), Id: d.next(256), Data: d.some(size)}
		b, e := Pack(p)
		if e != api.OK {
			t.Fatal(e)
		}
		q, e := Unpack(append(b, d.some(d.next(9))...))
		if e != api.OK || !samePacket(p, q) {
			t.Fatal(p, q, e)
		}
	}
}

func TestOptionsAreReadAsTheyWere(t *testing.T) {
	var d draws = 2
	for range 5000 {
		var l []api.Option
		for range d.next(33) {
			l = append(l, api.Option{Type: d.next(256), Data: d.some([]int{0, 1, 4, d.next(254), 253}[d.next(5)])})
		}
		b, e := Bytes(l...)
		if e != api.OK {
			t.Fatal(e)
		}
		got, e := Options(b)
		if e != api.OK || !slices.EqualFunc(got, l, alike) {
			t.Fatal(l, got, e)
		}
	}
}

func TestWhatIsReadIsWrittenAsItWas(t *testing.T) {
	var d draws = 3
	read := 0
	for range 200000 {
		b := d.some(d.next(12))
		for i := range b {
			b[i] %= 6 // lengths that are there, now and then
		}
		l, e := Options(b)
		if e != api.OK {
			if len(l) != 0 {
				t.Fatal(b, l)
			}
			continue
		}
		read++
		if again, e := Bytes(l...); !bytes.Equal(again, b) || e != api.OK {
			t.Fatal(b, again, e)
		}
	}
	if read < 10000 {
		t.Error(read)
	}
}

// P9.8

func TestAPacketCutShortIsTold(t *testing.T) {
	var d draws = 4
	for _, size := range []int{0, 1, 2, 30, 300, 3000} {
		b, _ := Pack(api.Packet{Code: d.next(256), Id: d.next(256), Data: d.some(size)})
		for n := range b {
			if p, e := Unpack(b[:n]); !isNoPacket(p) || e != api.ErrShort {
				t.Fatal(size, n, e)
			}
		}
	}
}

// P1

func TestBytesOfAnyKindEnd(t *testing.T) {
	var d draws = 5
	for range 50000 {
		b := d.some(d.next(20))
		before := bytes.Clone(b)
		if p, e := Unpack(b); e != api.OK && !isNoPacket(p) {
			t.Fatal(b, p)
		}
		if l, e := Options(b); e != api.OK && len(l) != 0 {
			t.Fatal(b, l)
		}
		if !bytes.Equal(b, before) {
			t.Fatal(b, before)
		}
	}
}
