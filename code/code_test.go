package code

import (
	"math"
	"slices"
	"strings"
	"testing"

	"tether/api"
	"tether/filter"
)

var (
	tcp = Ins{Op: Test, Kind: filter.Proto, N: 262}
	yes = Ins{Op: Ret, N: 1}
	no  = Ins{Op: Ret}
)

// P24.1

func TestRightOfTheExample(t *testing.T) {
	refused(t, "one test", []Ins{tcp}, api.ErrProg, 0)
}

func TestRightOfSizes(t *testing.T) {
	refused(t, "none", nil, api.ErrSize, 0)
	refused(t, "none", []Ins{}, api.ErrSize, 0)
	for _, size := range []int{1, 2, 999, 1000} {
		borne(t, "ends", slices.Repeat([]Ins{no}, size))
		p := slices.Repeat([]Ins{{Op: Jump}}, size)
		refused(t, "no end", p, api.ErrProg, size-1)
		p[size-1] = yes
		borne(t, "jumps", p)
		p[0].T = size - 1
		if size > 1 {
			refused(t, "over all", p, api.ErrProg, 0)
			p[0].T--
			borne(t, "to the last one", p)
		}
	}
	for _, size := range []int{1001, 1 << 20} {
		refused(t, "too many", slices.Repeat([]Ins{no}, size), api.ErrSize, 0)
		refused(t, "too many, and none right", make([]Ins, size), api.ErrSize, 0)
	}
}

func TestRightOfAnyInstruction(t *testing.T) {
	numbers := []int64{math.MinInt64, -1, 0, 1, 2, 4, 5, 6, 7, 255, 256, 511, 512, 65535, 65536, math.MaxUint32, 1 << 32, 1 << 62, math.MaxInt64}
	small := []int{-1, 0, 1, 2, 3, 32, 33}
	ways := []int{math.MinInt, -1, 0, 1, 2, 3, 1 << 32, math.MaxInt}
	behind := []Ins{no, {Op: Jump}, yes}
	met := map[bool]int{}
	for op := -1; op < 6; op++ {
		for _, kind := range []int{math.MinInt, -1, 0, 1, 2, 3, 4, 5, 6, 7, 8, 9, 10, 11, math.MaxInt} {
			for _, n := range numbers {
				for _, dir := range small {
					for _, size := range small {
						i := Ins{Op: op, Kind: kind, Dir: dir, N: n, Len: size}
						if !i.near() {
							continue
						}
						for _, i.T = range ways {
							for _, i.F = range ways {
								e, at := Right(append([]Ins{i}, behind...))
								want := right(i, 3)
								met[want]++
								if (e == api.OK) != want || e != api.OK && e != api.ErrProg || at != 0 {
									t.Fatal(i, e, at)
								}
							}
						}
					}
				}
			}
		}
	}
	if met[true] < 1000 || met[false] < 10000 {
		t.Error(met)
	}
}

// near tells whether an instruction is right, or lacks little: all others would take long.
func (i Ins) near() bool {
	for _, op := range []int{Test, Ret, Jump} {
		a, b, c, d := i, i, i, i
		a.Op, b.Dir, c.Len, d.Kind = op, 0, 0, 0
		for _, j := range []Ins{i, a, b, c, d} {
			if right(j, 1) {
				return true
			}
		}
	}
	return false
}

func TestRightTellsTheFirstOne(t *testing.T) {
	var d draws = 1
	for range 2000 {
		p := d.program(1 + d.next(20))
		borne(t, "a program", p)
		at := d.next(len(p))
		other := slices.Clone(p)
		other[at] = d.wrong(p[at], len(p)-1-at)
		for i := at + 1; i < len(p); i++ {
			if d.next(2) == 0 {
				other[i].Op = 9
			}
		}
		refused(t, "a wrong one", other, api.ErrProg, at)
	}
}

// wrong answers i with something that can not be.
func (d *draws) wrong(i Ins, behind int) Ins {
	switch d.next(9) {
	case 0:
		i.Op = []int{-1, 0, 4, 1 << 32}[d.next(4)]
	case 1:
		i.Kind = []int{-1, 7, 8, 9, 10, 11}[d.next(6)]
	case 2:
		i.Dir = []int{-1, 3, 256}[d.next(3)]
	case 3:
		i.Len = []int{-1, 33, 256}[d.next(3)]
	case 4:
		i.T = []int{-1, behind, math.MaxInt, math.MinInt}[d.next(4)]
	case 5:
		i.F = []int{-1, behind + 1, math.MaxInt, math.MinInt}[d.next(4)]
	default:
		i.N = []int64{-1, 1 << 32, math.MaxInt64, math.MinInt64}[d.next(4)]
	}
	if right(i, behind) || i.Op == Ret && behind == 0 && i.T == 0 && i.F == 0 && i.N >= 0 && i.N < 2 {
		return Ins{}
	}
	return i
}

func TestCompileOfTheExample(t *testing.T) {
	l, _, _ := filter.Parse("tcp and dst port 80")
	p, e := Compile(l)
	if e != api.OK || len(p) > 5 {
		t.Fatal(p, e)
	}
	borne(t, "the example", p)
	if len(p) != 4 {
		t.Error(p)
	}
}

func TestCompileTellsWhatHoldsTells(t *testing.T) {
	var d draws = 2
	met := map[bool]int{}
	for range 3000 {
		l := d.expression(t, 1+d.next(12))
		if l == nil {
			continue
		}
		before := slices.Clone(l)
		p, e := Compile(l)
		if e != api.OK || len(p) > len(l)+2 || !slices.Equal(l, before) {
			t.Fatal(l, p, e)
		}
		borne(t, "of an expression", p)
		for range 20 {
			b := d.bytes(t)
			held, _ := filter.Holds(l, b)
			told, _, e := Run(p, b)
			if told != held || e != api.OK {
				t.Fatalf("%v of %x: %v", l, b, told)
			}
			met[held]++
		}
	}
	if met[true] < 5000 || met[false] < 5000 {
		t.Error(met)
	}
}

func TestCompileOfTheGreatest(t *testing.T) {
	var d draws = 3
	for range 20 {
		var l []filter.Node
		for len(l) < 80 {
			l = d.expression(t, 40+d.next(20))
		}
		p, e := Compile(l)
		if e != api.OK || len(p) > len(l)+2 {
			t.Fatal(len(p), e)
		}
		borne(t, "a great one", p)
		for range 20 {
			b := d.bytes(t)
			held, _ := filter.Holds(l, b)
			if told, _, e := Run(p, b); told != held || e != api.OK {
				t.Fatalf("%v of %x: %v", l, b, told)
			}
		}
	}
	chain, e, _ := filter.Parse(strings.Repeat("ip||", 99) + "tcp")
	p, f := Compile(chain)
	if e != api.OK || f != api.OK || len(chain) != 199 || len(p) > 201 {
		t.Error(len(chain), len(p), e, f)
	}
}

func TestCompileRefuses(t *testing.T) {
	for _, l := range [][]filter.Node{
		nil, {{}}, {{Kind: filter.And}}, {{Kind: filter.Not, A: 5}}, {{Kind: filter.Proto, N: 5}},
		{{Kind: filter.Proto, N: 4}, {Kind: filter.Proto, N: 4}}, {{Kind: filter.Proto, N: 4}, {Kind: filter.Or}},
		{{Kind: filter.Proto, N: 4}, {Kind: filter.Not, A: -1}}, make([]filter.Node, 1<<20),
	} {
		if p, e := Compile(l); p != nil || e != api.ErrExpr {
			t.Error(p, e)
		}
	}
}

// P24.2

func TestRunCountsWhatIsDone(t *testing.T) {
	one := Ins{Op: Test, Kind: filter.More, N: 1}
	for _, c := range []struct {
		p    []Ins
		size int
		told bool
		done int
	}{
		{[]Ins{yes}, 0, true, 1},
		{[]Ins{no}, 0, false, 1},
		{[]Ins{yes, no}, 0, true, 1},
		{[]Ins{no, yes}, 9, false, 1},
		{[]Ins{{Op: Jump}, yes}, 0, true, 2},
		{[]Ins{{Op: Jump, T: 1}, yes, no}, 0, false, 2},
		{[]Ins{{Op: Jump, T: 1}, yes, {Op: Jump}, no}, 0, false, 3},
		{[]Ins{with(one, 0, 1), yes, no}, 0, false, 2},
		{[]Ins{with(one, 0, 1), yes, no}, 1, true, 2},
		{[]Ins{with(one, 1, 0), yes, no}, 0, true, 2},
		{[]Ins{with(one, 1, 0), yes, no}, 1, false, 2},
		{[]Ins{with(one, 0, 0), yes, no}, 0, true, 2},
		{[]Ins{with(one, 0, 2), with(one, 1, 0), yes, no}, 3, false, 3},
		{[]Ins{with(one, 0, 2), with(one, 1, 0), yes, no}, 0, false, 2},
	} {
		told, done, e := Run(c.p, make([]byte, c.size))
		if told != c.told || done != c.done || e != api.OK {
			t.Error(c, told, done, e)
		}
	}
	for _, size := range []int{1, 500, 1000} {
		p := slices.Repeat([]Ins{{Op: Jump}}, size)
		p[size-1] = yes
		if told, done, e := Run(p, nil); !told || done != size || e != api.OK {
			t.Error(size, told, done, e)
		}
	}
}

// with answers a test with its ways.
func with(i Ins, told, not int) Ins {
	i.T, i.F = told, not
	return i
}

// P24.5, P24.6, P24.8

func TestRunIsTheModel(t *testing.T) {
	var d draws = 4
	for range 3000 {
		p := d.program(1 + d.next(30))
		turned := slices.Clone(p)
		for i := range turned {
			if turned[i].Op == Ret {
				turned[i].N = 1 - turned[i].N
			}
		}
		for range 10 {
			b := d.bytes(t)
			list, bytes := slices.Clone(p), slices.Clone(b)
			want, way := follow(t, p, 0, b)
			told, done, e := Run(p, b)
			if told != want || done != len(way) || e != api.OK {
				t.Fatalf("%v of %x: %v %d %d", p, b, told, done, e)
			}
			if !slices.Equal(p, list) || !slices.Equal(b, bytes) {
				t.Fatal("what was handed in is changed")
			}
			other, steps, e := Run(turned, b)
			if other == told || steps != done || e != api.OK {
				t.Fatalf("%v of %x: %v", turned, b, other)
			}
		}
	}
}

func TestRunOfNoPacket(t *testing.T) {
	var d draws = 5
	for _, b := range [][]byte{nil, {0}, {0x45}, make([]byte, 40), make([]byte, 70000)} {
		for range 2000 {
			n := d.node()
			i := Ins{Op: Test, Kind: n.Kind, Dir: n.Dir, N: n.N, Len: n.Len, F: 1}
			told, done, e := Run([]Ins{i, yes, no}, b)
			want := n.Kind == filter.Less && len(b) <= int(n.N) || n.Kind == filter.More && len(b) >= int(n.N)
			if told != want || done != 2 || e != api.OK {
				t.Fatal(i, told, done, e)
			}
		}
	}
}

// P24.3

func TestShort(t *testing.T) {
	one := Ins{Op: Test, Kind: filter.More, N: 1}
	for _, c := range []struct{ p, want []Ins }{
		{[]Ins{yes}, []Ins{yes}},
		{[]Ins{yes, no}, []Ins{yes}},
		{[]Ins{{Op: Jump}, {Op: Jump}, no}, []Ins{no}},
		{[]Ins{{Op: Jump, T: 1}, yes, no, yes}, []Ins{no}},
		{[]Ins{with(one, 0, 1), yes, no}, []Ins{with(one, 0, 1), yes, no}},
		{[]Ins{{Op: Jump, T: 1}, yes, with(one, 1, 0), {Op: Jump}, no, yes}, []Ins{with(one, 0, 0), no}},
		{[]Ins{with(one, 2, 1), yes, {Op: Jump, T: 2}, {Op: Jump}, yes, no}, []Ins{with(one, 0, 1), yes, no}},
	} {
		p, e, at := Short(c.p)
		if e != api.OK || at != 0 || !Same(p, c.want) {
			t.Error(c.p, p, e, at)
		}
	}
}

func TestShortOfAnyProgram(t *testing.T) {
	var d draws = 6
	shorter := 0
	for range 4000 {
		p := d.program(1 + d.next(40))
		before := slices.Clone(p)
		s, e, at := Short(p)
		if e != api.OK || at != 0 || len(s) > len(p) || !slices.Equal(p, before) {
			t.Fatal(p, s, e, at)
		}
		borne(t, "a short one", s)
		if len(s) < len(p) {
			shorter++
		}
		if met := reached(s); len(met) != len(s) {
			t.Fatal(p, s, met)
		}
		if slices.ContainsFunc(s, func(i Ins) bool { return i.Op == Jump }) {
			t.Fatal(p, s)
		}
		if again, e, _ := Short(s); e != api.OK || len(again) != len(s) {
			t.Fatal(p, s, again)
		}
		for range 10 {
			b := d.bytes(t)
			want, most, _ := Run(p, b)
			told, done, e := Run(s, b)
			if told != want || done > most || e != api.OK {
				t.Fatalf("%v %v of %x", p, s, b)
			}
		}
	}
	if shorter < 1000 {
		t.Error(shorter)
	}
}

func TestShortOfTheGreatest(t *testing.T) {
	p := slices.Repeat([]Ins{{Op: Jump}}, 1000)
	p[999] = yes
	if s, e, _ := Short(p); len(s) != 1 || e != api.OK {
		t.Error(s, e)
	}
	for i := range 999 {
		p[i] = with(tcp, 0, 998-i)
	}
	if s, e, _ := Short(p); len(s) > 1000 || e != api.OK {
		t.Error(len(s), e)
	}
}

func TestAnswersAreNewMemory(t *testing.T) {
	p := []Ins{with(tcp, 0, 1), yes, no}
	s, _, _ := Short(p)
	clear(s)
	_ = append(s[:0], Ins{}, Ins{}, Ins{})
	if p[0] != with(tcp, 0, 1) || p[1] != yes {
		t.Error(p)
	}
	again, _, _ := Short(p)
	if !Same(again, p) {
		t.Error(again)
	}
	b, _, _ := Bytes(p)
	l, _, _ := Read(b)
	clear(b)
	if !Same(l, p) {
		t.Error(l)
	}
}
