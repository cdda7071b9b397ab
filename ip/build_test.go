package ip

import (
	"bytes"
	"math"
	"slices"
	"testing"

	"tether/api"
)

// full answers fields of IP that can be, none of them 0.
func full() Fields {
	return Fields{
		Version: 4, Class: 1, Id: 2, Dont: true, More: true, Offset: 8, Ttl: 3, Proto: 99, Src: 4, Dst: 5,
	}
}

// fullSix answers fields of IPv6 that can be.
func fullSix() Fields {
	return Fields{Version: 6, Class: 1, Label: 2, Ttl: 3, Proto: 99, Src6: [16]byte(sixAddr(1)), Dst6: [16]byte(sixAddr(2))}
}

// builds checks that f with data is the packet want.
func builds(t *testing.T, what string, f Fields, data, want []byte) {
	t.Helper()
	before := slices.Clone(data)
	if got, e := Build(f, data); !bytes.Equal(got, want) || e != api.OK {
		t.Errorf("%s: %x %d, not %x", what, got, e, want)
	}
	if !bytes.Equal(data, before) {
		t.Error(what, "what was handed in is changed")
	}
}

// buildsNone checks that f with data is refused.
func buildsNone(t *testing.T, what string, f Fields, data []byte, want api.Errno) {
	t.Helper()
	if got, e := Build(f, data); got != nil || e != want {
		t.Errorf("%s: %x %d, not %d", what, got, e, want)
	}
}

// P18.2

func TestBuildOfTheExample(t *testing.T) {
	data := []byte{0, 5, 0, 7, 0, 8, 0, 0}
	builds(t, "the example", Fields{Version: 4, Ttl: 64, Proto: 17, Src: 0x0a000001, Dst: 0x0a000002}, data, join([]byte{
		0x45, 0, 0, 0x1c, 0, 0, 0, 0, 0x40, 0x11, 0x66, 0xcf, 0x0a, 0, 0, 1, 0x0a, 0, 0, 2,
	}, data))
}

func TestBuildOfIp(t *testing.T) {
	f := Fields{
		Version: 4, Class: 0x81, Id: 0x1234, Ttl: 7, Proto: 99, Src: 0x01020304, Dst: 0xfafbfcfd,
	}
	b := []byte{0x45, 0x81, 0, 23, 0x12, 0x34, 0, 0, 7, 99, 0, 0, 1, 2, 3, 4, 250, 251, 252, 253, 'a', 'b', 'c'}
	builds(t, "with data", f, []byte("abc"), sealed(b))
	builds(t, "none", f, nil, sealed(changed(b, 3, 20))[:20])
	for _, c := range []struct {
		dont, more bool
		offset     int
		place      int
	}{
		{true, false, 0, 0x4000},
		{false, true, 0, 0x2000},
		{false, false, 8, 0x0001},
		{false, false, 65528, 0x1fff},
		{true, true, 2048, 0x6100},
	} {
		f.Dont, f.More, f.Offset = c.dont, c.more, c.offset
		builds(t, "flags", f, []byte("abc"), sealed(changed(changed(b, 6, byte(c.place>>8)), 7, byte(c.place))))
	}
}

func TestBuildOfIpv6(t *testing.T) {
	f := Fields{Version: 6, Class: 0xab, Label: 0xcdef1, Ttl: 7, Proto: 99, Src6: [16]byte(sixAddr(1)), Dst6: [16]byte(sixAddr(2))}
	head := []byte{0x6a, 0xbc, 0xde, 0xf1, 0, 3, 99, 7}
	builds(t, "with data", f, []byte("abc"), join(head, sixAddr(1), sixAddr(2), []byte("abc")))
	builds(t, "none", f, nil, join(changed(head, 5, 0), sixAddr(1), sixAddr(2)))
	f.Class, f.Label, f.Ttl, f.Proto = 255, 1<<20-1, 255, 255
	builds(t, "the greatest ones", f, nil, join([]byte{0x6f, 0xff, 0xff, 0xff, 0, 0, 255, 255}, sixAddr(1), sixAddr(2)))
}

func TestBuildRefusesNumbersOutOfTheirBounds(t *testing.T) {
	for _, version := range []int{math.MinInt, -1, 0, 1, 2, 3, 5, 7, 15, 16, 20, 4 + 256, 6 + 1<<32, math.MaxInt} {
		f := full()
		f.Version = version
		buildsNone(t, "version", f, nil, api.ErrArg)
	}
	for _, c := range []struct {
		what  string
		most  int
		field func(f *Fields) *int
	}{
		{"class", 255, func(f *Fields) *int { return &f.Class }},
		{"ttl", 255, func(f *Fields) *int { return &f.Ttl }},
		{"proto", 255, func(f *Fields) *int { return &f.Proto }},
	} {
		for _, n := range []int{math.MinInt, -1, 0, 1, c.most, c.most + 1, 1 << 32, math.MaxInt} {
			for _, f := range []Fields{full(), fullSix()} {
				*c.field(&f) = n
				_, e := Build(f, nil)
				right := n >= 0 && n <= c.most && !(c.what == "proto" && n == 0 && f.Version == 6)
				if (e == api.OK) != right || e != api.OK && e != api.ErrArg {
					t.Error(c.what, n, f.Version, e)
				}
			}
		}
	}
}

func TestBuildRefusesNumbersOfIp(t *testing.T) {
	for _, n := range []int{math.MinInt, -1, 65536, 1 << 32, math.MaxInt} {
		f := full()
		f.Id = n
		buildsNone(t, "id", f, nil, api.ErrArg)
	}
	for _, n := range []int{math.MinInt, -8, -1, 1, 4, 7, 9, 65527, 65529, 65535, 65536, 1 << 32, math.MaxInt} {
		f := full()
		f.Offset = n
		buildsNone(t, "offset", f, nil, api.ErrArg)
	}
	for _, n := range []int64{math.MinInt64, -1, 1 << 32, math.MaxInt64} {
		f := full()
		f.Src = n
		buildsNone(t, "source", f, nil, api.ErrArg)
		f.Src, f.Dst = 1, n
		buildsNone(t, "destination", f, nil, api.ErrArg)
	}
	for _, c := range []struct{ id, offset int }{{0, 0}, {65535, 65528}} {
		f := full()
		for _, addr := range []int64{0, 1, math.MaxUint32} {
			f.Id, f.Offset, f.Src, f.Dst = c.id, c.offset, addr, math.MaxUint32-addr
			b, _ := Build(f, nil)
			if got, e := Parse(b); got.Src != addr || got.Dst != math.MaxUint32-addr || e != api.OK {
				t.Error(c, addr, got, e)
			}
		}
	}
	for _, proto := range []int{0, 43, 44, 60} {
		f := full()
		f.Proto = proto
		if _, e := Build(f, nil); e != api.OK {
			t.Error(proto, e)
		}
	}
}

func TestBuildRefusesNumbersOfIpv6(t *testing.T) {
	for what, change := range map[string]func(f *Fields){
		"a label below 0":    func(f *Fields) { f.Label = -1 },
		"the least label":    func(f *Fields) { f.Label = math.MinInt },
		"a label above all":  func(f *Fields) { f.Label = 1 << 20 },
		"the greatest label": func(f *Fields) { f.Label = math.MaxInt },
		"an id":              func(f *Fields) { f.Id = 1 },
		"an id below 0":      func(f *Fields) { f.Id = -1 },
		"an id above all":    func(f *Fields) { f.Id = 65536 },
		"an offset":          func(f *Fields) { f.Offset = 8 },
		"an odd offset":      func(f *Fields) { f.Offset = -1 },
		"more":               func(f *Fields) { f.More = true },
		"dont":               func(f *Fields) { f.Dont = true },
		"0":                  func(f *Fields) { f.Proto = 0 },
		"43":                 func(f *Fields) { f.Proto = 43 },
		"44":                 func(f *Fields) { f.Proto = 44 },
		"60":                 func(f *Fields) { f.Proto = 60 },
	} {
		f := fullSix()
		change(&f)
		buildsNone(t, what, f, nil, api.ErrArg)
		buildsNone(t, what, f, make([]byte, 70000), api.ErrArg)
	}
	for _, proto := range []int{1, 42, 45, 58, 59, 61} {
		f := fullSix()
		f.Proto, f.Label = proto, proto%2*(1<<20-1)
		if _, e := Build(f, nil); e != api.OK {
			t.Error(proto, e)
		}
	}
}

func TestBuildRefusesPacketsThatAreTooLong(t *testing.T) {
	data := make([]byte, 65536)
	for _, c := range []struct {
		f    Fields
		room int
		head int
	}{
		{full(), 65515, 20},
		{fullSix(), 65535, 40},
	} {
		got, e := Build(c.f, data[:c.room])
		if len(got) != c.head+c.room || e != api.OK {
			t.Error(len(got), e)
		}
		if d, e := Data(got); len(d) != c.room || e != api.OK {
			t.Error(len(d), e)
		}
		buildsNone(t, "one more", c.f, data[:c.room+1], api.ErrSize)
		c.f.Ttl = 256
		buildsNone(t, "and a number out of its bounds", c.f, data[:c.room+1], api.ErrArg)
	}
}

func TestWhatPlaysNoPartInBuild(t *testing.T) {
	for _, f := range []Fields{full(), fullSix()} {
		want, _ := Build(f, []byte("abc"))
		f.Length, f.Header, f.Carries = -1, math.MaxInt, true
		f.SrcPort, f.DstPort, f.Flags, f.Type, f.Code = -1, 65536, 256, math.MinInt, 999
		if f.Version == 4 {
			f.Label, f.Src6, f.Dst6 = -1, [16]byte{1}, [16]byte{2}
		} else {
			f.Src, f.Dst = -1, math.MaxInt64
		}
		builds(t, "other numbers", f, []byte("abc"), want)
	}
}

func TestBuildAnswersNewMemory(t *testing.T) {
	for _, f := range []Fields{full(), fullSix()} {
		data := []byte("abc")
		want, _ := Build(f, data)
		got, _ := Build(f, data)
		clear(data)
		if !bytes.Equal(got, want) {
			t.Error("data are kept")
		}
		clear(got)
		builds(t, "again", f, []byte("abc"), want)
	}
}

// P18.5

// drawnFields answers fields that can be built.
func (d *draws) drawnFields() Fields {
	f := Fields{Version: 4, Class: d.next(256), Ttl: d.next(256), Proto: d.proto()}
	if d.next(2) > 0 {
		f.Id, f.Offset = d.next(65536), d.next(2)*d.next(8192)*8
		f.Dont, f.More = d.next(2) > 0, d.next(2) > 0
		f.Src, f.Dst = int64(d.next(1<<31))*2+1, int64(d.next(1<<31))*2
		return f
	}
	f.Version, f.Label = 6, d.next(1<<20)
	f.Src6, f.Dst6 = [16]byte(d.some(16)), [16]byte(d.some(16))
	if slices.Contains([]int{0, 43, 44, 60}, f.Proto) {
		f.Proto = 59
	}
	return f
}

func TestPacketsAreReadAsTheyWere(t *testing.T) {
	var d draws = 7
	for range 50000 {
		f, data := d.drawnFields(), d.some(d.next(40))
		b, e := Build(f, data)
		if e != api.OK {
			t.Fatal(f, e)
		}
		got, e := Parse(b)
		if e != api.OK || got.Length != len(b) || got.Header != len(b)-len(data) {
			t.Errorf("%+v %d", got, e)
		}
		carried, _ := Data(b)
		trimmed, _ := Trim(b)
		if !bytes.Equal(carried, data) || !bytes.Equal(trimmed, b) {
			t.Errorf("%x: %x %x", b, carried, trimmed)
		}
		got.Length, got.Header = 0, 0
		got.Carries, got.SrcPort, got.DstPort, got.Flags, got.Type, got.Code = false, 0, 0, 0, 0, 0
		if got != f {
			t.Errorf("%+v, not %+v", got, f)
		}
	}
}

// P18.3

func TestDataAndTrim(t *testing.T) {
	four, six := fourOf(17, []byte{1, 1, 1, 1}, []byte("abcdefgh")), sixOf(0, join(longer(17, 2), []byte("abcdefgh")))
	for _, b := range [][]byte{four, six} {
		for _, behind := range []string{"", "x", "yyy"} {
			all := join(b, []byte(behind))
			before := slices.Clone(all)
			if got, e := Data(all); string(got) != "abcdefgh" || e != api.OK {
				t.Errorf("%q %d", got, e)
			}
			if got, e := Trim(all); !bytes.Equal(got, b) || e != api.OK {
				t.Errorf("%x %d", got, e)
			}
			if !bytes.Equal(all, before) {
				t.Error("what was handed in is changed")
			}
		}
	}
	for _, b := range [][]byte{fourOf(17, nil, nil), sixOf(59, nil), sixOf(43, longer(59, 3))} {
		if got, e := Data(join(b, b)); len(got) != 0 || e != api.OK {
			t.Error(got, e)
		}
	}
}

func TestDataTrimAndTtlAnswerTheFault(t *testing.T) {
	four, six := fourOf(17, nil, []byte("abcdefgh")), sixOf(0, longer(17, 2))
	for _, c := range []struct {
		b    []byte
		want api.Errno
	}{
		{nil, api.ErrShort},
		{[]byte{0x50}, api.ErrIp},
		{four[:19], api.ErrShort},
		{four[:27], api.ErrShort},
		{changed(four, 0, 0x44), api.ErrIp},
		{changed(four, 8, 0), api.ErrFcs},
		{sealed(changed(four, 6, 0x80)), api.ErrIp},
		{sealed(changed(changed(four, 6, 0x80), 8, 0)), api.ErrIp},
		{six[:40], api.ErrShort},
		{changed(six, 41, 2), api.ErrIp},
		{changed(changed(six, 41, 2), 7, 0), api.ErrIp},
	} {
		for what, call := range map[string]func([]byte) ([]byte, api.Errno){"Data": Data, "Trim": Trim, "Ttl": Ttl} {
			if got, e := call(c.b); got != nil || e != c.want {
				t.Errorf("%s: %x: %x %d, not %d", what, c.b, got, e, c.want)
			}
		}
	}
}

func TestTtl(t *testing.T) {
	four, six := fourOf(17, []byte{1, 2, 3, 4}, []byte("abcdefgh")), sixOf(0, join(longer(17, 2), []byte("abcdefgh")))
	for n := range 256 {
		a, b := sealed(changed(four, 8, byte(n))), changed(six, 7, byte(n))
		for _, behind := range []string{"", "xyz"} {
			gotFour, e := Ttl(join(a, []byte(behind)))
			gotSix, e6 := Ttl(join(b, []byte(behind)))
			if n < 2 {
				if gotFour != nil || e != api.ErrArg || gotSix != nil || e6 != api.ErrArg {
					t.Error(n, gotFour, e, gotSix, e6)
				}
				continue
			}
			if !bytes.Equal(gotFour, sealed(changed(a, 8, byte(n-1)))) || e != api.OK {
				t.Errorf("%d: %x %d", n, gotFour, e)
			}
			if !bytes.Equal(gotSix, changed(b, 7, byte(n-1))) || e6 != api.OK {
				t.Errorf("%d: %x %d", n, gotSix, e6)
			}
		}
	}
}

func TestTtlReckonsTheSumAnew(t *testing.T) {
	b := fourOf(17, nil, nil)
	b[4], b[5] = b[10], b[11] // so that the sum is 0
	b = sealed(b)
	if b[10] != 0 || b[11] != 0 {
		t.Fatal(b)
	}
	more := sealed(changed(b, 8, b[8]+1))
	if got, e := Ttl(more); !bytes.Equal(got, b) || e != api.OK {
		t.Error(got, e)
	}
	b[10], b[11] = 255, 255 // which goes, too
	if got, e := Ttl(b); !bytes.Equal(got, sealed(changed(b, 8, b[8]-1))) || e != api.OK {
		t.Error(got, e)
	}
}

func TestAnswersShareNothing(t *testing.T) {
	for _, b := range [][]byte{fourOf(17, nil, []byte("abcdefgh")), sixOf(17, []byte("abcdefgh"))} {
		for what, call := range map[string]func([]byte) ([]byte, api.Errno){"Data": Data, "Trim": Trim, "Ttl": Ttl} {
			all := join(b, make([]byte, 50))
			before := slices.Clone(all)
			first, _ := call(all)
			second, _ := call(all)
			want := slices.Clone(second)
			_ = append(first, 9, 9, 9, 9)
			clear(first)
			if !bytes.Equal(all, before) || !bytes.Equal(second, want) {
				t.Error(what, "memory is shared")
			}
			clear(all)
			if !bytes.Equal(second, want) {
				t.Error(what, "what was handed in is kept")
			}
		}
	}
}

// P18.8

func TestTtlEnds(t *testing.T) {
	var d draws = 8
	for range 3000 {
		b := d.drawn()
		f, e := Parse(b)
		if e != api.OK {
			continue
		}
		data, _ := Data(b)
		for n := f.Ttl; n > 1; n-- {
			if b, e = Ttl(b); e != api.OK {
				t.Fatal(n, e)
			}
			f.Ttl--
			if got, e := Parse(b); got != f || e != api.OK {
				t.Fatalf("%+v %d, not %+v", got, e, f)
			}
		}
		if got, _ := Data(b); !bytes.Equal(got, data) {
			t.Error(got, data)
		}
		if got, e := Ttl(b); got != nil || e != api.ErrArg {
			t.Error(got, e)
		}
	}
}

// P1

func TestCallsOfBytesOfAnyKind(t *testing.T) {
	var d draws = 9
	for range 100000 {
		b := d.some(d.next(120))
		if len(b) > 0 && d.next(4) > 0 {
			b[0] = byte(int(b[0])%16 | []int{4, 6}[d.next(2)]<<4)
		}
		f, e := Parse(b)
		want, fault := model(b)
		if f != want || e != fault {
			t.Fatalf("%x", b)
		}
		Data(b)
		Trim(b)
		Ttl(b)
		Text(f)
		Sum(b)
	}
}

func TestCallsOfFieldsOfAnyKind(t *testing.T) {
	odd := []int{math.MinInt, -1, 0, 1, 6, 17, 1 << 33, math.MaxInt}
	for _, version := range []int{4, 6, 7} {
		for _, n := range odd {
			f := Fields{
				Version: version, Class: n, Label: n, Length: n, Header: n, Id: n, Offset: n, Ttl: n, Proto: n,
				Src: int64(n), Dst: int64(n), Carries: true, SrcPort: n, DstPort: n, Flags: n, Type: n, Code: n,
			}
			got, e := Build(f, nil)
			if e != api.OK && (got != nil || e != api.ErrArg) {
				t.Error(f, got, e)
			}
			if Text(f) == "" && version < 7 {
				t.Error(f)
			}
		}
	}
}
