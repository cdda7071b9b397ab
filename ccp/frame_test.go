package ccp

import (
	"bytes"
	"math"
	"testing"

	"tether/api"
)

// frame answers a frame of a protocol.
func frame(proto int, info ...byte) api.Frame {
	return api.Frame{Proto: proto, Info: info}
}

func sameFrame(a, b api.Frame) bool {
	return a.Proto == b.Proto && bytes.Equal(a.Info, b.Info)
}

// noFrame is what is told with an error.
func noFrame(f api.Frame) bool {
	return f.Proto == 0 && f.Info == nil
}

// noProtos are numbers of no protocols.
func noProtos() []int {
	return []int{math.MinInt, -1, -0xff, 0, 2, 0x20, 0xfe, 0x100, 0x101, 0x121, 0x3fff, 0x8020, 0x8121, 0xffff, 0x10021, 0x10000, 1<<32 + 0x21, math.MaxInt}
}

// P22.4

func TestBytes(t *testing.T) {
	for i, c := range []struct {
		f    api.Frame
		want []byte
	}{
		{frame(0x0021, 0x45), []byte{0x21, 0x45}},
		{frame(0x0021), []byte{0x21}},
		{frame(0x0001, 1, 2), []byte{1, 1, 2}},
		{frame(0x00ff, 0), []byte{0xff, 0}},
		{frame(0x00fd, 0), []byte{0xfd, 0}},
		{frame(0x0201, 9), []byte{2, 1, 9}},
		{frame(0x8021, 1, 1, 0, 4), []byte{0x80, 0x21, 1, 1, 0, 4}},
		{frame(0xfeff), []byte{0xfe, 0xff}},
	} {
		if got, e := Bytes(c.f); !bytes.Equal(got, c.want) || e != api.OK {
			t.Errorf("%d: %x %d", i, got, e)
		}
	}
}

func TestBytesOfEachNumber(t *testing.T) {
	for n := -300; n < 0x10300; n++ {
		right := n >= 1 && n <= 65535 && n%2 == 1 && n/256%2 == 0
		got, e := Bytes(frame(n, 7))
		if !right {
			if got != nil || e != api.ErrProto {
				t.Fatal(n, got, e)
			}
			continue
		}
		want := []byte{byte(n), 7}
		if n > 255 {
			want = []byte{byte(n >> 8), byte(n), 7}
		}
		if !bytes.Equal(got, want) || e != api.OK {
			t.Fatal(n, got, e)
		}
	}
}

func TestBytesOfWhatCanNotBe(t *testing.T) {
	long := make([]byte, api.MaxMru+1)
	for _, n := range noProtos() {
		for _, info := range [][]byte{nil, {1}, long} {
			if got, e := Bytes(frame(n, info...)); got != nil || e != api.ErrProto {
				t.Error(n, len(info), e)
			}
		}
	}
	for _, n := range []int{0x21, 0x8021, 0xfd} {
		if got, e := Bytes(frame(n, long...)); got != nil || e != api.ErrSize {
			t.Error(n, e)
		}
		if got, e := Bytes(frame(n, long[:api.MaxMru]...)); len(got) != api.MaxMru+1+n>>15 || e != api.OK {
			t.Error(n, len(got), e)
		}
	}
}

func TestFrame(t *testing.T) {
	for i, c := range []struct {
		b    []byte
		want api.Frame
		e    api.Errno
	}{
		{nil, api.Frame{}, api.ErrShort},
		{[]byte{}, api.Frame{}, api.ErrShort},
		{[]byte{0}, api.Frame{}, api.ErrShort},
		{[]byte{0x80}, api.Frame{}, api.ErrShort},
		{[]byte{0xfe}, api.Frame{}, api.ErrShort},
		{[]byte{0x21}, frame(0x21), api.OK},
		{[]byte{0x01}, frame(1), api.OK},
		{[]byte{0xff, 0, 0}, frame(0xff, 0, 0), api.OK},
		{[]byte{0x21, 0x45}, frame(0x21, 0x45), api.OK},
		{[]byte{0x00, 0x21, 0x45}, frame(0x21, 0x45), api.OK},
		{[]byte{0x00, 0x21}, frame(0x21), api.OK},
		{[]byte{0x80, 0x21, 1}, frame(0x8021, 1), api.OK},
		{[]byte{0x81, 0x21, 1}, frame(0x81, 0x21, 1), api.OK},
		{[]byte{0x00, 0x00}, api.Frame{}, api.ErrProto},
		{[]byte{0x00, 0x20, 1}, api.Frame{}, api.ErrProto},
		{[]byte{0x80, 0x20}, api.Frame{}, api.ErrProto},
	} {
		got, e := Frame(c.b)
		if !sameFrame(got, c.want) || e != c.e || e != api.OK && !noFrame(got) {
			t.Error(i, got, e)
		}
	}
}

func TestFrameOfEachBeginning(t *testing.T) {
	for n := range 65536 {
		b := []byte{byte(n >> 8), byte(n), 5}
		got, e := Frame(b)
		switch {
		case b[0]%2 == 1:
			if !sameFrame(got, frame(int(b[0]), b[1:]...)) || e != api.OK {
				t.Fatal(b, got, e)
			}
		case b[1]%2 == 1:
			if !sameFrame(got, frame(n, 5)) || e != api.OK {
				t.Fatal(b, got, e)
			}
		case !noFrame(got) || e != api.ErrProto:
			t.Fatal(b, got, e)
		}
	}
}

func TestFrameOfManyBytes(t *testing.T) {
	for _, head := range [][]byte{{0x21}, {0x80, 0x21}, {0, 0x21}} {
		for n, want := range map[int]api.Errno{api.MaxMru - 1: api.OK, api.MaxMru: api.OK, api.MaxMru + 1: api.ErrSize, api.MaxMru + 2: api.ErrSize, 1 << 20: api.ErrSize} {
			f, e := Frame(append(bytes.Clone(head), make([]byte, n)...))
			if e != want || e == api.OK && len(f.Info) != n || e != api.OK && !noFrame(f) {
				t.Error(head, n, e)
			}
		}
	}
	if f, e := Frame(make([]byte, api.MaxMru+9)); !noFrame(f) || e != api.ErrProto {
		t.Error(e, "a number that is none is told first")
	}
}

// P22.10

func TestFrameTellsWhatBytesSay(t *testing.T) {
	var d draws = 4
	for range 20000 {
		f := d.frame()
		b, e := Bytes(f)
		if e != api.OK {
			t.Fatal(f, e)
		}
		if got, e := Frame(b); !sameFrame(got, f) || e != api.OK {
			t.Fatal(f, got, e)
		}
	}
}

func TestFramesAreNewMemory(t *testing.T) {
	f := frame(0x8021, 1, 2, 3)
	b, _ := Bytes(f)
	_ = append(b, 9, 9, 9)
	clear(b)
	if !sameFrame(f, frame(0x8021, 1, 2, 3)) {
		t.Error("what was handed in is changed")
	}
	b = []byte{0x80, 0x21, 1, 2, 3, 4}
	g, _ := Frame(b[:5])
	_ = append(g.Info, 9)
	clear(g.Info)
	if !bytes.Equal(b, []byte{0x80, 0x21, 1, 2, 3, 4}) {
		t.Error("what was handed in is changed")
	}
}
