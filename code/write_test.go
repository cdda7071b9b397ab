package code

import (
	"bytes"
	"math"
	"slices"
	"testing"

	"tether/api"
	"tether/filter"
)

// P24.4

func TestBytes(t *testing.T) {
	p := []Ins{
		{Op: Test, Kind: filter.Net, Dir: filter.Dst, N: 0x0a010203, Len: 24, T: 0, F: 258},
		{Op: Jump, T: 257},
	}
	p = append(p, slices.Repeat([]Ins{no}, 257)...)
	p = append(p, yes)
	b, e, at := Bytes(p)
	want := []byte{
		1, 3, 2, 24, 0, 0, 0, 0, 10, 1, 2, 3, 0, 0, 1, 2,
		3, 0, 0, 0, 0, 0, 0, 0, 0, 0, 0, 0, 1, 1, 0, 0,
		2, 0, 0, 0, 0, 0, 0, 0, 0, 0, 0, 0, 0, 0, 0, 0,
	}
	last := []byte{2, 0, 0, 0, 0, 0, 0, 0, 0, 0, 0, 1, 0, 0, 0, 0}
	if e != api.OK || at != 0 || len(b) != 16*260 || !bytes.Equal(b[:48], want) || !bytes.Equal(b[16*259:], last) {
		t.Errorf("%x %d %d", b, e, at)
	}
}

func TestReadOfSizes(t *testing.T) {
	whole, _, _ := Bytes(slices.Repeat([]Ins{no}, 1000))
	for size := range len(whole) + 1 {
		p, e, at := Read(whole[:size])
		switch {
		case size == 0:
			if p != nil || e != api.ErrSize || at != 0 {
				t.Fatal(size, e, at)
			}
		case size%16 != 0:
			if p != nil || e != api.ErrShort || at != size/16 {
				t.Fatal(size, e, at)
			}
		case len(p) != size/16 || e != api.OK || at != 0:
			t.Fatal(size, e, at)
		}
	}
	for _, more := range []int{1, 16, 1 << 20} {
		if p, e, at := Read(append(bytes.Clone(whole), make([]byte, more)...)); p != nil || e != api.ErrSize || at != 0 {
			t.Error(more, e, at)
		}
	}
	if p, e, at := Read(nil); p != nil || e != api.ErrSize || at != 0 {
		t.Error(p, e, at)
	}
	if p, e, at := Read(make([]byte, 31)); p != nil || e != api.ErrShort || at != 1 { // ahead of what they say
		t.Error(p, e, at)
	}
}

func TestReadOfNumbers(t *testing.T) {
	for _, n := range []uint64{2, 1 << 32, 1<<62 - 1, 1 << 62, 1<<62 + 1, 1 << 63, 1<<63 + 1, math.MaxUint64, math.MaxUint64 - 255} {
		for _, head := range [][]byte{{2, 0, 0, 0}, {1, 2, 0, 0}, {1, 1, 0, 0}, {1, 5, 0, 0}, {3, 0, 0, 0}} {
			b := bytes.Clone(head)
			for shift := 56; shift >= 0; shift -= 8 {
				b = append(b, byte(n>>shift))
			}
			b = append(b, 0, 0, 0, 0)
			end, _, _ := Bytes([]Ins{no})
			right := head[0] == 1 && (head[1] == 2 && n < 1<<32 || head[1] == 5 && n < 65536)
			p, e, at := Read(slices.Concat(end, b, end))
			if right != (e == api.OK) || !right && (p != nil || e != api.ErrProg || at != 1) {
				t.Error(head, n, p, e, at)
			}
		}
	}
}

func TestReadIsRight(t *testing.T) {
	var d draws = 7
	met := map[api.Errno]int{}
	for range 20000 {
		p := d.program(1 + d.next(5))
		b, _, _ := Bytes(p)
		b[d.next(len(b))] = byte(d.next(256) * d.next(2))
		before := bytes.Clone(b)
		l, e, at := Read(b)
		if !bytes.Equal(b, before) {
			t.Fatal("the bytes are changed")
		}
		met[e]++
		want, place := api.OK, 0
		for i := len(b)/16 - 1; i >= 0; i-- {
			c := b[16*i:]
			var n int64
			for _, x := range c[4:12] {
				n = n*256 + int64(x)
			}
			ins := Ins{int(c[0]), int(c[1]), int(c[2]), n, int(c[3]), int(c[12])*256 + int(c[13]), int(c[14])*256 + int(c[15])}
			if !right(ins, len(p)-1-i) {
				want, place = api.ErrProg, i
			} else if e == api.OK && l[i] != ins {
				t.Fatal(l[i], ins)
			}
		}
		if e != want || at != place || e != api.OK && l != nil {
			t.Fatalf("%x: %d %d", b, e, at)
		}
	}
	if met[api.OK] < 1000 || met[api.ErrProg] < 1000 {
		t.Error(met)
	}
}

func TestText(t *testing.T) {
	p := []Ins{
		{Op: Test, Kind: filter.Proto, N: 4, F: 1},
		{Op: Test, Kind: filter.Host, Dir: filter.Src, N: 0x0a000001, T: 1},
		{Op: Jump, T: 2},
		{Op: Test, Kind: filter.Net, Dir: filter.Dst, N: math.MaxUint32, Len: 8, T: 3, F: 2},
		{Op: Ret},
		{Op: Test, Kind: filter.Port, N: 65535},
		{Op: Ret, N: 1},
		{Op: Test, Kind: filter.Less, N: 9, F: 1},
		{Op: Test, Kind: filter.More, N: 7},
		{Op: Ret, N: 1},
	}
	want := "0 test proto either 4 0 1 2\n" +
		"1 test host src 167772161 0 3 2\n" +
		"2 jump 5\n" +
		"3 test net dst 4294967295 8 7 6\n" +
		"4 ret 0\n" +
		"5 test port either 65535 0 6 6\n" +
		"6 ret 1\n" +
		"7 test less either 9 0 8 9\n" +
		"8 test greater either 7 0 9 9\n" +
		"9 ret 1\n"
	if s, e, at := Text(p); s != want || e != api.OK || at != 0 {
		t.Errorf("%s %d %d", s, e, at)
	}
}

func TestTextOfAnyProgram(t *testing.T) {
	var d draws = 8
	for range 1000 {
		p := d.program(1 + d.next(20))
		want := ""
		for at, i := range p {
			line, next := itoa(int64(at)), int64(at+1)
			switch i.Op {
			case 1:
				kind := []string{"", "proto", "host", "net", "port", "less", "greater"}[i.Kind]
				line += " test " + kind + " " + []string{"either", "src", "dst"}[i.Dir] + " " + itoa(i.N) + " " + itoa(int64(i.Len))
				line += " " + itoa(next+int64(i.T)) + " " + itoa(next+int64(i.F))
			case 2:
				line += " ret " + itoa(i.N)
			case 3:
				line += " jump " + itoa(next+int64(i.T))
			}
			want += line + "\n"
		}
		if s, e, at := Text(p); s != want || e != api.OK || at != 0 {
			t.Fatal(s, want, e, at)
		}
	}
}

func TestSame(t *testing.T) {
	p := []Ins{with(tcp, 0, 1), yes, no}
	for _, c := range []struct {
		a, b []Ins
		want bool
	}{
		{nil, nil, true}, {nil, []Ins{}, true}, {p, p, true}, {p, slices.Clone(p), true},
		{p, p[:2], false}, {p[:2], p, false}, {nil, p, false}, {p, nil, false}, {[]Ins{{}}, nil, false},
		{[]Ins{{Op: -1, N: math.MinInt64}}, []Ins{{Op: -1, N: math.MinInt64}}, true}, // what is no program, too
	} {
		if Same(c.a, c.b) != c.want {
			t.Error(c)
		}
	}
	for _, i := range []Ins{{Op: 1}, {Kind: 1}, {Dir: 1}, {N: 1}, {Len: 1}, {T: 1}, {F: 1}} {
		if Same([]Ins{{}}, []Ins{i}) || Same([]Ins{i, {}}, []Ins{{}, i}) || !Same([]Ins{i}, []Ins{i}) {
			t.Error(i)
		}
	}
}

// P24.7

func TestProgramsAreReadAsTheyWere(t *testing.T) {
	var d draws = 9
	for range 3000 {
		p := d.program(1 + d.next(40))
		before := slices.Clone(p)
		b, e, _ := Bytes(p)
		if e != api.OK || !slices.Equal(p, before) {
			t.Fatal(p, e)
		}
		if l, e, at := Read(b); !Same(l, p) || e != api.OK || at != 0 {
			t.Fatal(p, l, e, at)
		}
	}
	p := d.program(1000)
	b, _, _ := Bytes(p)
	if l, e, _ := Read(b); !Same(l, p) || e != api.OK || len(b) != 16000 {
		t.Error(len(b), e)
	}
}

// P1

func TestNothingPanics(t *testing.T) {
	odd := []int{math.MinInt, -1, 0, 1, 2, 3, 6, 7, math.MaxInt}
	for _, op := range odd {
		for _, kind := range odd {
			for _, n := range odd {
				for _, way := range odd {
					i := Ins{op, kind, n, int64(way), way, n, way}
					for _, p := range [][]Ins{{i}, {i, no}, {i, i}, {no, i, no}, {i, i, i, yes}} {
						e, at := Right(p)
						_, _, f := Run(p, []byte{1})
						_, g, there := Short(p)
						if e != f || e != g || at != there || !Same(p, p) {
							t.Fatal(p, e, f, g)
						}
					}
				}
			}
		}
	}
}
