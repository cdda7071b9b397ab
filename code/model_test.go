package code

import (
	"slices"
	"strconv"
	"testing"

	"tether/api"
	"tether/filter"
	"tether/ip"
)

// draws are numbers that come again in each run.
type draws uint64

func (d *draws) next(below int) int {
	*d = *d*6364136223846793005 + 1442695040888963407
	return int(uint64(*d)>>33) % below
}

// node answers the node of a test.
func (d *draws) node() filter.Node {
	n := filter.Node{Kind: 1 + d.next(6)}
	switch n.Kind {
	case filter.Proto:
		n.N = []int64{4, 6, 257, 262, 273, 256, 511, 314}[d.next(8)]
		return n
	case filter.Host, filter.Net:
		n.N = 0x0a000000 + int64(d.next(3))
		if n.Kind == filter.Net {
			n.Len = d.next(33)
		}
	case filter.Port:
		n.N = int64(d.next(4) * 80)
	default:
		n.N = int64(d.next(70))
		return n
	}
	n.Dir = d.next(3)
	return n
}

// ins answers an instruction that can be, with that many behind it.
func (d *draws) ins(behind int) Ins {
	if behind == 0 || d.next(8) == 0 {
		return Ins{Op: Ret, N: int64(d.next(2))}
	}
	way := func() int { return d.next(min(behind, 1+d.next(12))) }
	if d.next(4) == 0 {
		return Ins{Op: Jump, T: way()}
	}
	n := d.node()
	return Ins{Op: Test, Kind: n.Kind, Dir: n.Dir, N: n.N, Len: n.Len, T: way(), F: way()}
}

// program answers a right program of that many instructions.
func (d *draws) program(size int) []Ins {
	p := make([]Ins, size)
	for i := range p {
		p[i] = d.ins(size - 1 - i)
	}
	return p
}

// expression answers the nodes of an expression of that many tests; none, if it would be too long.
func (d *draws) expression(t *testing.T, tests int) []filter.Node {
	t.Helper()
	l, e, at := filter.Parse(d.text(t, tests))
	if e != api.OK && e != api.ErrFull && e != api.ErrSize {
		t.Fatal(e, at)
	}
	return l
}

func (d *draws) text(t *testing.T, tests int) string {
	t.Helper()
	if tests <= 1 {
		s, e := filter.Print([]filter.Node{d.node()})
		if e != api.OK {
			t.Fatal(e)
		}
		return []string{"", "", "not ", "!!"}[d.next(4)] + s
	}
	a, b := d.text(t, tests/2), d.text(t, tests-tests/2)
	s := a + []string{" and ", " or "}[d.next(2)] + b
	return []string{s, s, "(" + s + ")", "not (" + s + ")"}[d.next(4)]
}

// bytes answers a packet, with bytes behind it at times, or bytes that are none.
func (d *draws) bytes(t *testing.T) []byte {
	t.Helper()
	f := ip.Fields{Version: []int{4, 4, 6}[d.next(3)], Proto: []int{1, 6, 17, 58}[d.next(4)]}
	if f.Version == 4 {
		f.Src, f.Dst = 0x0a000000+int64(d.next(3)), 0x0a000000+int64(d.next(3))
	}
	data := make([]byte, []int{0, 8, 20, 28}[d.next(4)])
	if len(data) > 0 {
		data[1], data[3] = byte(d.next(4)*80), byte(d.next(4)*80)
	}
	b, e := ip.Build(f, data)
	if e != api.OK {
		t.Fatal(e)
	}
	switch d.next(5) {
	case 0:
		return append(b, data...)
	case 1:
		return b[:d.next(len(b))]
	}
	return b
}

// holds tells by the filter whether the instruction's test tells b.
func (i Ins) holds(t *testing.T, b []byte) bool {
	t.Helper()
	held, e := filter.Holds([]filter.Node{{Kind: i.Kind, Dir: i.Dir, N: i.N, Len: i.Len}}, b)
	if e != api.OK {
		t.Fatal(i, e)
	}
	return held
}

// follow runs p from the instruction at on: what is told, and by which instructions.
func follow(t *testing.T, p []Ins, at int, b []byte) (bool, []int) {
	t.Helper()
	i, way := p[at], 0
	switch {
	case i.Op == Ret:
		return i.N == 1, []int{at}
	case i.Op == Jump || i.holds(t, b):
		way = i.T
	default:
		way = i.F
	}
	told, behind := follow(t, p, at+1+way, b)
	return told, append([]int{at}, behind...)
}

// reached answers which instructions some way leads to.
func reached(p []Ins) map[int]bool {
	out := map[int]bool{0: true}
	for at, i := range p {
		if !out[at] {
			continue
		}
		switch i.Op {
		case Test:
			out[at+1+i.F] = true
			fallthrough
		case Jump:
			out[at+1+i.T] = true
		}
	}
	return out
}

// right tells by the words whether an instruction can be, with that many behind it.
func right(i Ins, behind int) bool {
	leads := func(way int) bool { return way >= 0 && behind > 0 && way <= behind-1 }
	dirs := i.Dir == 0 || i.Dir == 1 || i.Dir == 2
	none := i.Kind == 0 && i.Dir == 0 && i.Len == 0
	switch i.Op {
	case 1:
		ways := leads(i.T) && leads(i.F)
		switch i.Kind {
		case 1:
			return ways && i.Dir == 0 && i.Len == 0 && (i.N == 4 || i.N == 6 || i.N >= 256 && i.N <= 511)
		case 2:
			return ways && dirs && i.Len == 0 && i.N >= 0 && i.N < 1<<32
		case 3:
			return ways && dirs && i.Len >= 0 && i.Len <= 32 && i.N >= 0 && i.N < 1<<32
		case 4:
			return ways && dirs && i.Len == 0 && i.N >= 0 && i.N < 1<<16
		case 5, 6:
			return ways && i.Dir == 0 && i.Len == 0 && i.N >= 0 && i.N < 1<<16
		}
	case 2:
		return none && (i.N == 0 || i.N == 1) && i.T == 0 && i.F == 0
	case 3:
		return none && i.N == 0 && leads(i.T) && i.F == 0
	}
	return false
}

// refused checks that no call bears p, and that all tell the same of it.
func refused(t *testing.T, what string, p []Ins, want api.Errno, at int) {
	t.Helper()
	before := slices.Clone(p)
	if e, n := Right(p); e != want || n != at {
		t.Error(what, "Right", e, n)
	}
	if told, done, e := Run(p, []byte{1}); told || done != 0 || e != want {
		t.Error(what, "Run", told, done, e)
	}
	if l, e, n := Short(p); l != nil || e != want || n != at {
		t.Error(what, "Short", e, n)
	}
	if b, e, n := Bytes(p); b != nil || e != want || n != at {
		t.Error(what, "Bytes", e, n)
	}
	if s, e, n := Text(p); s != "" || e != want || n != at {
		t.Error(what, "Text", e, n)
	}
	if !slices.Equal(p, before) {
		t.Error(what, "the program is changed")
	}
}

// borne checks that each call bears p.
func borne(t *testing.T, what string, p []Ins) {
	t.Helper()
	if e, n := Right(p); e != api.OK || n != 0 {
		t.Error(what, "Right", e, n)
	}
	if _, done, e := Run(p, []byte{1}); done < 1 || done > len(p) || e != api.OK {
		t.Error(what, "Run", done, e)
	}
	if l, e, n := Short(p); l == nil || e != api.OK || n != 0 {
		t.Error(what, "Short", e, n)
	}
	if b, e, n := Bytes(p); len(b) != 16*len(p) || e != api.OK || n != 0 {
		t.Error(what, "Bytes", e, n)
	}
	if s, e, n := Text(p); s == "" || e != api.OK || n != 0 {
		t.Error(what, "Text", e, n)
	}
}

func itoa(n int64) string {
	return strconv.FormatInt(n, 10)
}
