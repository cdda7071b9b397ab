package ip

import (
	"bytes"
	"slices"
	"testing"

	"tether/api"
)

// told checks what Parse tells of b.
func told(t *testing.T, what string, b []byte, want Fields) {
	t.Helper()
	before := slices.Clone(b)
	if got, e := Parse(b); got != want || e != api.OK {
		t.Errorf("%s: %+v %d, not %+v", what, got, e, want)
	}
	if !bytes.Equal(b, before) {
		t.Error(what, "what was handed in is changed")
	}
}

// refused checks that Parse refuses b.
func refused(t *testing.T, what string, b []byte, want api.Errno) {
	t.Helper()
	if got, e := Parse(b); got != (Fields{}) || e != want {
		t.Errorf("%s: %+v %d, not %d", what, got, e, want)
	}
}

// P18.1

func TestParseOfIp(t *testing.T) {
	b := sealed([]byte{
		0x46, 0x81, 0, 33, 0x12, 0x34, 0x60, 0x01, 7, 99, 0, 0, 1, 2, 3, 4, 250, 251, 252, 253,
		1, 1, 1, 1, // options
		'd', 'a', 't', 'a', ' ', 'o', 'f', ' ', '9',
	})
	want := Fields{
		Version: 4, Class: 0x81, Length: 33, Header: 24, Id: 0x1234, Dont: true, More: true, Offset: 8,
		Ttl: 7, Proto: 99, Src: 0x01020304, Dst: 0xfafbfcfd,
	}
	told(t, "all", b, want)
	told(t, "with bytes behind", join(b, []byte{1, 2, 3}), want)

	for _, c := range []struct {
		place      int
		dont, more bool
		offset     int
	}{
		{0, false, false, 0},
		{0x4000, true, false, 0},
		{0x2000, false, true, 0},
		{0x0001, false, false, 8},
		{0x1fff, false, false, 65528},
		{0x1000, false, false, 32768},
		{0x7fff, true, true, 65528},
	} {
		d := sealed(changed(changed(b, 6, byte(c.place>>8)), 7, byte(c.place)))
		f := want
		f.Dont, f.More, f.Offset = c.dont, c.more, c.offset
		told(t, "flags", d, f)
	}
}

func TestParseOfTheShortestAndTheLongestHeader(t *testing.T) {
	want := Fields{Version: 4, Length: 20, Header: 20, Ttl: 64, Proto: 17, Src: 0x0a000001, Dst: 0x0a000002}
	told(t, "no data", fourOf(17, nil, nil), want)
	want.Length, want.Header = 60, 60
	told(t, "all options", fourOf(17, make([]byte, 40), nil), want)
	want.Length = 65535
	told(t, "the longest one", fourOf(17, make([]byte, 40), make([]byte, 65475)), withPorts(want, 0, 0))
}

// withPorts answers f with ports that are told.
func withPorts(f Fields, src, dst int) Fields {
	f.Carries, f.SrcPort, f.DstPort = true, src, dst
	return f
}

func TestParseRefusesBytesThatAreTooFew(t *testing.T) {
	refused(t, "none", nil, api.ErrShort)
	refused(t, "none", []byte{}, api.ErrShort)
	four, six := fourOf(17, []byte{1, 1, 1, 1}, make([]byte, 8)), sixOf(17, make([]byte, 8))
	for n := 1; n < len(four); n++ {
		refused(t, "of IP", four[:n], api.ErrShort)
	}
	for n := 1; n < len(six); n++ {
		refused(t, "of IPv6", six[:n], api.ErrShort)
	}
	for n := 1; n < 20; n++ {
		refused(t, "of IP, with all else at fault", slices.Repeat([]byte{0x40}, n), api.ErrShort)
	}
}

func TestParseRefusesOtherVersions(t *testing.T) {
	for half := range 16 {
		if half == 4 || half == 6 {
			continue
		}
		for _, n := range []int{1, 19, 20, 40, 100} {
			refused(t, "version", slices.Repeat([]byte{byte(half<<4 | 5)}, n), api.ErrIp)
		}
	}
}

func TestParseRefusesHeadersOfIp(t *testing.T) {
	b := fourOf(17, make([]byte, 8), make([]byte, 12)) // 28 and 12
	for words := range 5 {
		refused(t, "a header that is too short", sealed(changed(b, 0, byte(4<<4|words))), api.ErrIp)
	}
	for words := 11; words < 16; words++ {
		refused(t, "a header longer than the bytes", changed(b, 0, byte(4<<4|words)), api.ErrShort)
	}
	for n := range 28 {
		refused(t, "a length below the header's", sealed(changed(b, 3, byte(n))), api.ErrIp)
	}
	for n := 41; n < 60; n++ {
		refused(t, "a length above the bytes", sealed(changed(b, 3, byte(n))), api.ErrShort)
	}
	refused(t, "a length above the bytes", sealed(changed(b, 2, 1)), api.ErrShort)
	refused(t, "another sum", changed(b, 10, b[10]+1), api.ErrFcs)
	refused(t, "another sum", changed(b, 11, b[11]+1), api.ErrFcs)
	refused(t, "another sum, of options", changed(b, 27, 1), api.ErrFcs)
	refused(t, "the highest flag", sealed(changed(b, 6, 0x80)), api.ErrIp)
	refused(t, "the highest flag", sealed(changed(b, 6, 0xe0)), api.ErrIp)
	if _, e := Parse(changed(b, 28, 1)); e != api.OK {
		t.Error("data play no part in the sum", e)
	}
}

func TestParseTellsTheFirstFault(t *testing.T) {
	b := fourOf(17, nil, make([]byte, 8))
	refused(t, "header, length, sum, flag", changed(changed(changed(b, 0, 0x44), 3, 99), 6, 0x80), api.ErrIp)
	refused(t, "too few for the header, length below it", changed(changed(b, 0, 0x4f), 3, 1), api.ErrShort)
	refused(t, "length, sum, flag", changed(changed(b, 3, 19), 6, 0x80), api.ErrIp)
	refused(t, "too few, sum, flag", changed(changed(b, 3, 99), 6, 0x80), api.ErrShort)
	refused(t, "sum, flag", changed(b, 6, 0x80), api.ErrFcs)
}

func TestParseOfIpv6(t *testing.T) {
	src, dst := [16]byte{1, 2, 3, 4, 5, 6, 7, 8, 9, 10, 11, 12, 13, 14, 15, 16}, [16]byte{0xff, 15: 0xee}
	b := join([]byte{0x6a, 0xbc, 0xde, 0xf1, 0, 3, 99, 7}, src[:], dst[:], []byte("abc"))
	want := Fields{Version: 6, Class: 0xab, Label: 0xcdef1, Length: 43, Header: 40, Ttl: 7, Proto: 99, Src6: src, Dst6: dst}
	told(t, "all", b, want)
	told(t, "with bytes behind", join(b, b), want)
	want.Length, want.Class, want.Label = 40, 0, 0
	told(t, "nothing behind", join([]byte{0x60, 0, 0, 0, 0, 0, 99, 7}, src[:], dst[:]), want)
	want.Length, want.Class, want.Label = 65575, 0xff, 0xfffff
	told(t, "the longest one", join([]byte{0x6f, 0xff, 0xff, 0xff, 0xff, 0xff, 99, 7}, src[:], dst[:], make([]byte, 65535)), want)
	refused(t, "too few", join([]byte{0x6f, 0xff, 0xff, 0xff, 0xff, 0xff, 99, 7}, src[:], dst[:], make([]byte, 65534)), api.ErrShort)
}

// longer answers an extension header that names next, of so many units of eight bytes.
func longer(next, units int) []byte {
	out := bytes.Repeat([]byte{0xaa}, 8*units)
	out[0], out[1] = byte(next), byte(units-1)
	return out
}

// piece answers an extension header 44.
func piece(next, place, id int) []byte {
	return []byte{byte(next), 0xee, byte(place >> 8), byte(place), byte(id >> 24), byte(id >> 16), byte(id >> 8), byte(id)}
}

// sixFields are those of sixOf, with so many bytes of extension headers, and behind them.
func sixFields(proto, extensions, behind int) Fields {
	return Fields{
		Version: 6, Length: 40 + extensions + behind, Header: 40 + extensions, Ttl: 64, Proto: proto,
		Src6: [16]byte(sixAddr(1)), Dst6: [16]byte(sixAddr(2)),
	}
}

func TestParseOfExtensionHeaders(t *testing.T) {
	data := []byte("abcdefgh")
	for _, kind := range []int{0, 43, 60} {
		for _, units := range []int{1, 2, 3, 256} {
			b := sixOf(kind, join(longer(99, units), data))
			told(t, "one", b, sixFields(99, 8*units, 8))
			told(t, "one, and nothing", sixOf(kind, longer(99, units)), sixFields(99, 8*units, 0))
			told(t, "one that carries", sixOf(kind, join(longer(17, units), data)), withPorts(sixFields(17, 8*units, 8), 0x6162, 0x6364))
		}
		chain := join(longer(kind, 2), longer(43, 1), longer(99, 3), data)
		told(t, "three", sixOf(0, chain), sixFields(99, 48, 8))
	}
	for _, kind := range []int{1, 42, 45, 50, 51, 59, 61, 135, 255} {
		told(t, "not one", sixOf(kind, longer(99, 1)), sixFields(kind, 0, 8))
	}
}

func TestParseOfPieces(t *testing.T) {
	for _, c := range []struct {
		place  int
		more   bool
		offset int
	}{
		{0, false, 0},
		{1, true, 0},
		{2, false, 0},
		{4, false, 0},
		{7, true, 0},
		{8, false, 8},
		{0x8001, true, 32768},
		{0xffff, true, 65528},
	} {
		f := sixFields(99, 8, 3)
		f.More, f.Offset, f.Id = c.more, c.offset, 0xfedc
		told(t, "one", sixOf(44, join(piece(99, c.place, 0x1234fedc), []byte("abc"))), f)
	}
	f := sixFields(17, 32, 8)
	f.Id = 2
	two := join(piece(60, 0x81, 1), longer(44, 2), piece(17, 0, 2), make([]byte, 8))
	told(t, "two: the last one counts", sixOf(44, two), withPorts(f, 0, 0))
	f = sixFields(17, 32, 8)
	f.Id, f.Offset, f.More = 2, 128, true
	two = join(piece(60, 0, 1), longer(44, 2), piece(17, 0x81, 2), make([]byte, 8))
	told(t, "two: the last one counts", sixOf(44, two), f)
}

func TestParseRefusesExtensionHeadersThatDoNotEnd(t *testing.T) {
	for _, kind := range []int{0, 43, 60} {
		for n := range 24 {
			refused(t, "one", sixOf(kind, longer(99, 3)[:n]), api.ErrIp)
			refused(t, "one, with bytes behind the packet", join(sixOf(kind, longer(99, 3)[:n]), make([]byte, 99)), api.ErrIp)
		}
		refused(t, "the longest one", sixOf(kind, longer(99, 256)[:2047]), api.ErrIp)
	}
	for n := range 8 {
		refused(t, "44", sixOf(44, piece(99, 0, 0)[:n]), api.ErrIp)
		refused(t, "a second one", sixOf(0, join(longer(44, 1), piece(99, 0, 0)[:n])), api.ErrIp)
	}
	b := sixOf(44, []byte{99, 200, 0, 0, 0, 0, 0, 0})
	told(t, "44 has no length", b, sixFields(99, 8, 0))
}

func TestParseRefusesTooManyExtensionHeaders(t *testing.T) {
	for _, kind := range []int{0, 43, 44, 60} {
		var chain []byte
		for n := 1; n < 12; n++ {
			chain = join(bytes.Repeat(join([]byte{byte(kind)}, make([]byte, 7)), n-1), []byte{99}, make([]byte, 7))
			if n <= 8 {
				told(t, "few enough", sixOf(kind, chain), sixFields(99, 8*n, 0))
			} else {
				refused(t, "too many", sixOf(kind, chain), api.ErrIp)
			}
		}
	}
	refused(t, "eight, and one that is not there", sixOf(0, make([]byte, 64)), api.ErrIp)
}

func TestParseOfWhatIsCarried(t *testing.T) {
	data := []byte{0x12, 0x34, 0xfe, 0xdc, 1, 1, 1, 1, 2, 2, 2, 2, 3, 0xab, 4, 4, 5, 5, 6, 6, 7}
	for proto := range 256 {
		for n := range len(data) + 1 {
			four := Fields{Version: 4, Length: 28 + n, Header: 28, Ttl: 64, Proto: proto, Src: 0x0a000001, Dst: 0x0a000002}
			six := sixFields(proto, 0, n)
			for _, f := range []*Fields{&four, &six} {
				switch {
				case proto == 6 && n >= 20:
					*f = withPorts(*f, 0x1234, 0xfedc)
					f.Flags = 0xab
				case proto == 17 && n >= 8:
					*f = withPorts(*f, 0x1234, 0xfedc)
				case proto == 1 && f.Version == 4 && n >= 4, proto == 58 && f.Version == 6 && n >= 4:
					f.Carries, f.Type, f.Code = true, 0x12, 0x34
				}
			}
			told(t, "of IP", join(fourOf(proto, make([]byte, 8), data[:n]), data), four)
			if proto != 0 && proto != 43 && proto != 44 && proto != 60 {
				told(t, "of IPv6", join(sixOf(proto, data[:n]), data), six)
			}
		}
	}
}

func TestParseOfPiecesBehindTheFirstOne(t *testing.T) {
	for _, proto := range []int{1, 6, 17, 58} {
		for _, offset := range []int{1, 0x1fff} {
			b := sealed(changed(changed(fourOf(proto, nil, make([]byte, 30)), 6, byte(offset>>8)), 7, byte(offset)))
			f, e := Parse(b)
			if e != api.OK || f.Carries || f.Offset != 8*offset {
				t.Errorf("%+v %d", f, e)
			}
			f, e = Parse(sixOf(44, join(piece(proto, 8*offset, 1), make([]byte, 30))))
			if e != api.OK || f.Carries || f.Offset != 8*offset {
				t.Errorf("%+v %d", f, e)
			}
		}
		f, e := Parse(sealed(changed(fourOf(proto, nil, make([]byte, 30)), 6, 0x20)))
		if e != api.OK || f.Carries != (proto != 58) || !f.More {
			t.Errorf("%+v %d", f, e)
		}
	}
}

// bits answers n bits of b, as a number, from the bit at on.
func bits(b []byte, at, n int) int {
	out := 0
	for i := at; i < at+n; i++ {
		out = 2*out + int(b[i/8]>>(7-i%8)&1)
	}
	return out
}

// model is Parse by its words, on bits.
func model(b []byte) (Fields, api.Errno) {
	if len(b) < 1 {
		return Fields{}, api.ErrShort
	}
	version := bits(b, 0, 4)
	if least := map[int]int{4: 20, 6: 40}[version]; len(b) < least {
		return Fields{}, api.ErrShort
	}
	f, e := Fields{}, api.ErrIp
	switch version {
	case 4:
		f, e = modelFour(b)
	case 6:
		f, e = modelSix(b)
	}
	if e != api.OK {
		return Fields{}, e
	}
	data := b[f.Header:f.Length]
	kind := f.Proto*10 + f.Version
	switch {
	case f.Offset > 0:
	case (kind == 64 || kind == 66) && len(data) >= 20:
		f.Carries, f.SrcPort, f.DstPort, f.Flags = true, bits(data, 0, 16), bits(data, 16, 16), bits(data, 104, 8)
	case (kind == 174 || kind == 176) && len(data) >= 8:
		f.Carries, f.SrcPort, f.DstPort = true, bits(data, 0, 16), bits(data, 16, 16)
	case (kind == 14 || kind == 586) && len(data) >= 4:
		f.Carries, f.Type, f.Code = true, bits(data, 0, 8), bits(data, 8, 8)
	}
	return f, api.OK
}

func modelFour(b []byte) (Fields, api.Errno) {
	head, length := 4*bits(b, 4, 4), bits(b, 16, 16)
	switch {
	case head < 20:
		return Fields{}, api.ErrIp
	case len(b) < head:
		return Fields{}, api.ErrShort
	case length < head:
		return Fields{}, api.ErrIp
	case len(b) < length:
		return Fields{}, api.ErrShort
	case summed(b[:head]) != 0:
		return Fields{}, api.ErrFcs
	case bits(b, 48, 1) > 0:
		return Fields{}, api.ErrIp
	}
	return Fields{
		Version: 4, Class: bits(b, 8, 8), Length: length, Header: head, Id: bits(b, 32, 16),
		Dont: bits(b, 49, 1) > 0, More: bits(b, 50, 1) > 0, Offset: 8 * bits(b, 51, 13),
		Ttl: bits(b, 64, 8), Proto: bits(b, 72, 8), Src: int64(bits(b, 96, 32)), Dst: int64(bits(b, 128, 32)),
	}, api.OK
}

func modelSix(b []byte) (Fields, api.Errno) {
	f := Fields{
		Version: 6, Class: bits(b, 4, 8), Label: bits(b, 12, 20), Length: 40 + bits(b, 32, 16), Header: 40,
		Ttl: bits(b, 56, 8), Proto: bits(b, 48, 8), Src6: [16]byte(b[8:24]), Dst6: [16]byte(b[24:40]),
	}
	if len(b) < f.Length {
		return Fields{}, api.ErrShort
	}
	for n := 0; slices.Contains([]int{0, 43, 44, 60}, f.Proto); n++ {
		x := b[f.Header:f.Length]
		if n == 8 || len(x) < 8 {
			return Fields{}, api.ErrIp
		}
		size := 8
		if f.Proto == 44 {
			f.Offset, f.More, f.Id = 8*bits(x, 16, 13), bits(x, 31, 1) > 0, bits(x, 48, 16)
		} else if size += 8 * bits(x, 8, 8); len(x) < size {
			return Fields{}, api.ErrIp
		}
		f.Proto, f.Header = bits(x, 0, 8), f.Header+size
	}
	return f, api.OK
}

// proto answers a protocol that is often one that is looked into.
func (d *draws) proto() int {
	return []int{1, 6, 17, 58, 58, 6, 17, 1, d.next(256)}[d.next(9)]
}

// drawn answers bytes that often begin with a packet.
func (d *draws) drawn() []byte {
	data := d.some(d.next(30))
	b := fourOf(d.proto(), make([]byte, 4*d.next(11)), data)
	if d.next(2) > 0 {
		next := d.proto()
		for range d.next(10) {
			kind := []int{0, 43, 44, 60}[d.next(4)]
			x := longer(next, 1+d.next(3))
			if kind == 44 {
				x = piece(next, d.next(2)*d.next(65536), d.next(1<<31))
			}
			next, data = kind, join(x, data)
		}
		b = sixOf(next, data)
	}
	for d.next(2) > 0 {
		b[d.next(min(len(b), 60))] ^= byte(1 << d.next(8))
		if d.next(2) > 0 {
			b[0] = byte(int(b[0])%16 | []int{4, 6}[d.next(2)]<<4)
		}
		if b[0]>>4 == 4 && d.next(3) > 0 {
			b = sealed(b)
		}
	}
	switch d.next(4) {
	case 0:
		b = b[:d.next(len(b)+1)]
	case 1:
		b = join(b, d.some(d.next(20)))
	}
	return b
}

func TestParseIsAsItsWords(t *testing.T) {
	var d draws = 4
	seen := map[api.Errno]int{}
	for range 100000 {
		b := d.drawn()
		want, fault := model(b)
		before := slices.Clone(b)
		got, e := Parse(b)
		if got != want || e != fault {
			t.Fatalf("%x: %+v %d, not %+v %d", b, got, e, want, fault)
		}
		if !bytes.Equal(b, before) {
			t.Fatal("what was handed in is changed")
		}
		seen[e]++
	}
	for _, e := range []api.Errno{api.OK, api.ErrShort, api.ErrIp, api.ErrFcs} {
		if seen[e] < 2000 {
			t.Error(seen)
		}
	}
}

// P18.7

func TestAChangedBitOfAHeaderIsRefused(t *testing.T) {
	var d draws = 5
	for range 200 {
		b := fourOf(d.proto(), d.some(4*d.next(11)), d.some(d.next(30)))
		b[1], b[8] = byte(d.next(256)), byte(d.next(256))
		b = sealed(b)
		if _, e := Parse(b); e != api.OK {
			t.Fatal(b, e)
		}
		for at := 1; at < int(b[0]%16)*4; at++ {
			for bit := range 8 {
				if f, e := Parse(changed(b, at, b[at]^1<<bit)); e == api.OK || f != (Fields{}) {
					t.Error(b, at, bit)
				}
			}
		}
	}
}

// P18.6

func TestBytesBehindAPacketChangeNothing(t *testing.T) {
	var d draws = 6
	for range 20000 {
		b := d.drawn()
		want, e := Parse(b)
		if e != api.OK {
			continue
		}
		more := join(b[:want.Length], d.some(d.next(50)))
		if got, e := Parse(more); got != want || e != api.OK {
			t.Errorf("%+v %d, not %+v", got, e, want)
		}
		a, _ := Data(b)
		c, _ := Data(more)
		if !bytes.Equal(a, c) {
			t.Error(a, c)
		}
		a, _ = Ttl(b)
		c, _ = Ttl(more)
		if !bytes.Equal(a, c) {
			t.Error(a, c)
		}
		a, _ = Trim(b)
		c, _ = Trim(more)
		if again, e := Trim(a); !bytes.Equal(a, c) || !bytes.Equal(again, a) || e != api.OK {
			t.Error(a, c, again, e)
		}
	}
}
