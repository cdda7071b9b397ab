package hdlc

import (
	"bytes"
	"math"
	"testing"

	"tether/api"
	"tether/fcs"
)

// draws is a chain of numbers that are the same at each run.
type draws uint64

func (d *draws) next(below int) int {
	*d = *d*6364136223846793005 + 1442695040888963407
	return int(uint64(*d)>>33) % below
}

func (d *draws) bytes(n int) []byte {
	b := make([]byte, n)
	for i := range b {
		b[i] = byte(d.next(256))
	}
	return b
}

// accm draws a map; none and all of them often.
func (d *draws) accm() int64 {
	switch d.next(4) {
	case 0:
		return 0
	case 1:
		return math.MaxUint32
	}
	return int64(d.next(65536))<<16 | int64(d.next(65536))
}

// proto draws a protocol's number; short ones and LCP's often.
func (d *draws) proto() int {
	switch d.next(4) {
	case 0:
		return api.PLcp
	case 1:
		return d.next(128)*2 + 1
	}
	return d.next(128)*512 + d.next(128)*2 + 1
}

// wrongMaps are none that can be.
func wrongMaps() []int64 {
	return []int64{-1, math.MaxUint32 + 1, 1 << 40, math.MinInt64, math.MaxInt64}
}

// wrongProtos are no protocols' numbers.
func wrongProtos() []int {
	return []int{0, 2, 0x20, 0x0121, 0x0100, 0xff03, 0xffff, 0xfffe, 0xc020, 0xc121, 65536, 65537, 0x10021, 1 << 40, -1, -0x21, math.MinInt, math.MaxInt}
}

func sameFrame(a, b api.Frame) bool {
	return a.Proto == b.Proto && bytes.Equal(a.Info, b.Info)
}

// P3.1

func TestEncodeAsInTheExamples(t *testing.T) {
	request := api.Frame{Proto: api.PLcp, Info: []byte{1, 1, 0, 4}}
	want := []byte{0x7e, 0xff, 0x7d, 0x23, 0xc0, 0x21, 0x7d, 0x21, 0x7d, 0x21, 0x7d, 0x20, 0x7d, 0x24, 0xd1, 0xb5, 0x7e}
	for _, s := range []Send{{}, {Accm: math.MaxUint32}, {Accm: 1, Pfc: true, Acfc: true}} {
		if b, e := Encode(request, s); !bytes.Equal(b, want) || e != api.OK {
			t.Errorf("%v: %x %d", s, b, e)
		}
	}
	b, e := Encode(api.Frame{Proto: api.PIp, Info: []byte{0x45}}, Send{Pfc: true, Acfc: true})
	if !bytes.Equal(b, []byte{0x7e, 0x21, 0x45, 0x05, 0x20, 0x7e}) || e != api.OK {
		t.Errorf("%x %d", b, e)
	}
}

func TestBodyLeavesAwayWhatMayBeShort(t *testing.T) {
	info := []byte{0x45, 0x7e, 0x11}
	for _, c := range []struct {
		proto int
		s     Send
		ahead []byte
	}{
		{api.PIp, Send{}, []byte{0xff, 3, 0, 0x21}},
		{api.PIp, Send{Pfc: true}, []byte{0xff, 3, 0x21}},
		{api.PIp, Send{Acfc: true}, []byte{0, 0x21}},
		{api.PIp, Send{Pfc: true, Acfc: true}, []byte{0x21}},
		{0xff, Send{Pfc: true, Acfc: true}, []byte{0xff}},
		{0x0201, Send{Pfc: true, Acfc: true}, []byte{2, 1}},
		{api.PIpcp, Send{Pfc: true, Acfc: true}, []byte{0x80, 0x21}},
		{api.PIpcp, Send{}, []byte{0xff, 3, 0x80, 0x21}},
		{api.PPap, Send{Pfc: true, Acfc: true}, []byte{0xc0, 0x23}},
		{api.PLcp, Send{Pfc: true, Acfc: true}, []byte{0xff, 3, 0xc0, 0x21}},
		{api.PLcp, Send{}, []byte{0xff, 3, 0xc0, 0x21}},
		{0xfeff, Send{}, []byte{0xff, 3, 0xfe, 0xff}},
		{1, Send{}, []byte{0xff, 3, 0, 1}},
	} {
		want := fcs.Put16(append(c.ahead, info...))
		if b, e := Body(api.Frame{Proto: c.proto, Info: info}, c.s); !bytes.Equal(b, want) || e != api.OK {
			t.Errorf("%x %v: %x %d instead of %x", c.proto, c.s, b, e, want)
		}
	}
}

func TestBodyAndEncodeRefuse(t *testing.T) {
	long := make([]byte, api.MaxMru+1)
	for _, p := range wrongProtos() {
		refused(t, api.Frame{Proto: p}, Send{}, api.ErrProto)
		refused(t, api.Frame{Proto: p, Info: long}, Send{Accm: -1}, api.ErrProto)
	}
	for _, accm := range wrongMaps() {
		refused(t, api.Frame{Proto: api.PIp}, Send{Accm: accm}, api.ErrArg)
		refused(t, api.Frame{Proto: api.PLcp}, Send{Accm: accm}, api.ErrArg)
		refused(t, api.Frame{Proto: api.PIp, Info: long}, Send{Accm: accm}, api.ErrSize)
	}
	refused(t, api.Frame{Proto: api.PIp, Info: long}, Send{}, api.ErrSize)
	if b, e := Body(api.Frame{Proto: api.PIp, Info: long[1:]}, Send{Accm: math.MaxUint32}); len(b) != api.MaxMru+6 || e != api.OK {
		t.Error("the longest information:", len(b), e)
	}
}

func refused(t *testing.T, f api.Frame, s Send, want api.Errno) {
	t.Helper()
	if b, e := Body(f, s); b != nil || e != want {
		t.Error("Body", f.Proto, len(f.Info), s, b, e)
	}
	if b, e := Encode(f, s); b != nil || e != want {
		t.Error("Encode", f.Proto, len(f.Info), s, b, e)
	}
}

func TestEachNumberOfAProtocol(t *testing.T) {
	for p := -300; p < 70000; p++ {
		right := p >= 1 && p <= 65535 && p%2 == 1 && p/256%2 == 0
		if _, e := Body(api.Frame{Proto: p}, Send{}); right != (e == api.OK) || !right && e != api.ErrProto {
			t.Fatal(p, e)
		}
	}
}

func TestEscapeTurnsWhatTheMapNames(t *testing.T) {
	all := make([]byte, 256)
	for i := range all {
		all[i] = byte(i)
	}
	for _, accm := range []int64{0, 1, 1 << 31, 0x000a0000, 0x80000001, math.MaxUint32} {
		var want []byte
		for i, c := range all {
			if i == 0x7d || i == 0x7e || i < 32 && accm>>i&1 == 1 {
				want = append(want, 0x7d, c^0x20)
			} else {
				want = append(want, c)
			}
		}
		if b, e := Escape(all, accm); !bytes.Equal(b, want) || e != api.OK {
			t.Errorf("%x: %x %d", accm, b, e)
		}
	}
	for _, accm := range wrongMaps() {
		if b, e := Escape(all, accm); b != nil || e != api.ErrArg {
			t.Error(accm, b, e)
		}
		if b, e := Escape(nil, accm); b != nil || e != api.ErrArg {
			t.Error("none:", accm, b, e)
		}
	}
	if b, e := Escape(nil, 0); len(b) != 0 || e != api.OK {
		t.Error(b, e)
	}
}

func TestEncodeIsTheBodyBetweenFlags(t *testing.T) {
	var d draws = 1
	for range 2000 {
		f := api.Frame{Proto: d.proto(), Info: d.bytes(d.next(40))}
		s := Send{Accm: d.accm(), Pfc: d.next(2) == 0, Acfc: d.next(2) == 0}
		accm := s.Accm
		if f.Proto == api.PLcp {
			accm = math.MaxUint32
		}
		body, _ := Body(f, s)
		want, _ := Escape(body, accm)
		want = append(append([]byte{0x7e}, want...), 0x7e)
		if b, e := Encode(f, s); !bytes.Equal(b, want) || e != api.OK {
			t.Fatalf("%v %v: %x %d instead of %x", f, s, b, e, want)
		}
	}
}

func TestAnswersAreNewMemory(t *testing.T) {
	room := []byte{1, 2, 0x7e, 0x7d, 5, 6, 7, 8}
	f := api.Frame{Proto: api.PIp, Info: room[:4]}
	one, _ := Body(f, Send{Pfc: true, Acfc: true})
	two, _ := Encode(f, Send{})
	three, _ := Escape(room[:2], 0)
	for _, b := range [][]byte{one, two, three} {
		for i := range b {
			b[i] = 99
		}
		_ = append(b, 99)
	}
	if !bytes.Equal(room, []byte{1, 2, 0x7e, 0x7d, 5, 6, 7, 8}) {
		t.Error("what was handed in is changed:", room)
	}
	body := []byte{0xff, 3, 0, 0x21, 1, 2, 3}
	g, _ := Parse(body[:6], false, false)
	g.Info[0] = 99
	_ = append(g.Info, 99)
	if !bytes.Equal(body, []byte{0xff, 3, 0, 0x21, 1, 2, 3}) {
		t.Error("Parse shares what was handed in:", body)
	}
}

// P3.2

func TestParse(t *testing.T) {
	for _, c := range []struct {
		b         []byte
		pfc, acfc bool
		f         api.Frame
		e         api.Errno
	}{
		{[]byte{0xff, 3, 0, 0x21, 7}, false, false, api.Frame{Proto: api.PIp, Info: []byte{7}}, api.OK},
		{[]byte{0xff, 3, 0, 0x21, 7}, true, true, api.Frame{Proto: api.PIp, Info: []byte{7}}, api.OK},
		{[]byte{0xff, 3, 0xc0, 0x21}, false, false, api.Frame{Proto: api.PLcp}, api.OK},
		{[]byte{0xc0, 0x21, 1}, false, true, api.Frame{Proto: api.PLcp, Info: []byte{1}}, api.OK},
		{[]byte{0xc0, 0x21, 1}, true, false, api.Frame{}, api.ErrForm},
		{[]byte{0xff, 3, 0x21, 7, 8}, true, false, api.Frame{Proto: api.PIp, Info: []byte{7, 8}}, api.OK},
		{[]byte{0xff, 3, 0x21, 7, 8}, false, true, api.Frame{}, api.ErrForm},
		{[]byte{0x21}, true, true, api.Frame{Proto: api.PIp}, api.OK},
		{[]byte{0x21}, false, true, api.Frame{}, api.ErrForm},
		{[]byte{0xff, 3, 0xff, 3}, true, false, api.Frame{Proto: 0xff, Info: []byte{3}}, api.OK},
		{[]byte{0xff, 4}, true, true, api.Frame{Proto: 0xff, Info: []byte{4}}, api.OK},
		{[]byte{0xff}, true, true, api.Frame{Proto: 0xff}, api.OK},
		{[]byte{0xff}, true, false, api.Frame{}, api.ErrForm},
		{[]byte{0xff, 3}, true, true, api.Frame{}, api.ErrShort},
		{[]byte{0xff, 3}, false, false, api.Frame{}, api.ErrShort},
		{[]byte{0xff, 3, 0}, false, false, api.Frame{}, api.ErrShort},
		{[]byte{0xff, 3, 0xc0}, true, true, api.Frame{}, api.ErrShort},
		{[]byte{0xff, 3, 0x21}, false, false, api.Frame{}, api.ErrForm},
		{[]byte{0xff, 3, 0, 0x20}, true, true, api.Frame{}, api.ErrProto},
		{[]byte{0xff, 3, 0, 0}, false, false, api.Frame{}, api.ErrProto},
		{[]byte{0xff, 3, 0xc0, 0x22, 1}, false, false, api.Frame{}, api.ErrProto},
		{[]byte{0, 0x21}, false, true, api.Frame{Proto: api.PIp}, api.OK},
		{[]byte{0, 1}, true, true, api.Frame{Proto: 1}, api.OK},
		{[]byte{0xfe, 0xff}, true, true, api.Frame{Proto: 0xfeff}, api.OK},
		{[]byte{0xfe}, true, true, api.Frame{}, api.ErrShort},
		{[]byte{0xff, 2, 0, 0x21}, true, false, api.Frame{}, api.ErrForm},
		{[]byte{0xfe, 3, 0, 0x21}, true, false, api.Frame{}, api.ErrForm},
		{nil, true, true, api.Frame{}, api.ErrShort},
		{nil, false, true, api.Frame{}, api.ErrShort},
		{nil, true, false, api.Frame{}, api.ErrForm},
		{[]byte{}, false, false, api.Frame{}, api.ErrForm},
	} {
		f, e := Parse(c.b, c.pfc, c.acfc)
		if !sameFrame(f, c.f) || e != c.e || e != api.OK && f.Info != nil {
			t.Errorf("%x %v %v: %v %d", c.b, c.pfc, c.acfc, f, e)
		}
	}
}

// P3.5

func TestEscapeWritesNoFlagAndNothingThatIsNamed(t *testing.T) {
	var d draws = 2
	for range 2000 {
		accm := d.accm()
		b, _ := Escape(d.bytes(d.next(100)), accm)
		for _, c := range b {
			if c == 0x7e || c < 32 && accm>>c&1 == 1 {
				t.Fatalf("%x in %x, map %x", c, b, accm)
			}
		}
	}
}
