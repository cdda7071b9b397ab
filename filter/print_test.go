package filter

import (
	"math"
	"slices"
	"strings"
	"testing"

	"tether/api"
)

// prints checks that l is right, and what its text is.
func prints(t *testing.T, l []Node, want string) {
	t.Helper()
	before := slices.Clone(l)
	if s, e := Print(l); s != want || e != api.OK || Right(l) != api.OK {
		t.Errorf("%v: %q %d, not %q", l, s, e, want)
	}
	if !slices.Equal(l, before) {
		t.Error("the list is changed")
	}
}

// isNone checks that l is no expression.
func isNone(t *testing.T, what string, l []Node) {
	t.Helper()
	before := slices.Clone(l)
	if s, e := Print(l); s != "" || e != api.ErrExpr {
		t.Errorf("%s: %.99q %d", what, s, e)
	}
	if e := Right(l); e != api.ErrExpr {
		t.Error(what, e)
	}
	for _, b := range [][]byte{nil, {1}, make([]byte, 99)} {
		if held, e := Holds(l, b); held || e != api.ErrExpr {
			t.Error(what, held, e)
		}
	}
	if !slices.Equal(l, before) {
		t.Error("the list is changed")
	}
}

// P23.2

func TestPrintOfEachForm(t *testing.T) {
	for want, l := range map[string][]Node{
		"ip":                          {{Kind: 1, N: 4}},
		"ip6":                         {{Kind: 1, N: 6}},
		"icmp":                        {{Kind: 1, N: 257}},
		"tcp":                         {{Kind: 1, N: 262}},
		"udp":                         {{Kind: 1, N: 273}},
		"proto 0":                     {{Kind: 1, N: 256}},
		"proto 4":                     {{Kind: 1, N: 260}},
		"proto 255":                   {{Kind: 1, N: 511}},
		"host 0.0.0.0":                {{Kind: 2}},
		"src host 255.255.255.255":    {{Kind: 2, Dir: 1, N: math.MaxUint32}},
		"dst net 10.20.30.40/0":       {{Kind: 3, Dir: 2, N: 0x0a141e28}},
		"net 0.0.0.0/32":              {{Kind: 3, Len: 32}},
		"port 0":                      {{Kind: 4}},
		"src port 65535":              {{Kind: 4, Dir: 1, N: 65535}},
		"less 0":                      {{Kind: 5}},
		"greater 65535":               {{Kind: 6, N: 65535}},
		"not ip":                      {{Kind: 1, N: 4}, {Kind: 7}},
		"(ip)":                        {{Kind: 1, N: 4}, {Kind: 10}},
		"ip and ip6":                  {{Kind: 1, N: 4}, {Kind: 1, N: 6}, {Kind: 8, B: 1}},
		"ip or ip6":                   {{Kind: 1, N: 4}, {Kind: 1, N: 6}, {Kind: 9, B: 1}},
		"not (not ((ip6)))":           {{Kind: 1, N: 6}, {Kind: 10}, {Kind: 10, A: 1}, {Kind: 7, A: 2}, {Kind: 10, A: 3}, {Kind: 7, A: 4}},
		"ip or ip6 or less 5":         {{Kind: 1, N: 4}, {Kind: 1, N: 6}, {Kind: 9, B: 1}, {Kind: 5, N: 5}, {Kind: 9, A: 2, B: 3}},
		"ip or ip6 and less 5":        {{Kind: 1, N: 4}, {Kind: 1, N: 6}, {Kind: 5, N: 5}, {Kind: 8, A: 1, B: 2}, {Kind: 9, A: 0, B: 3}},
		"(ip or ip6) and not less 5":  {{Kind: 1, N: 4}, {Kind: 1, N: 6}, {Kind: 9, B: 1}, {Kind: 10, A: 2}, {Kind: 5, N: 5}, {Kind: 7, A: 4}, {Kind: 8, A: 3, B: 5}},
		"ip and (ip6 and greater 50)": {{Kind: 1, N: 4}, {Kind: 1, N: 6}, {Kind: 6, N: 50}, {Kind: 8, A: 1, B: 2}, {Kind: 10, A: 3}, {Kind: 8, A: 0, B: 4}},
	} {
		prints(t, l, want)
	}
}

func TestRightOfTests(t *testing.T) {
	numbers := []int64{math.MinInt64, -1 << 32, -257, -256, -252, -1, 0, 1, 3, 4, 5, 6, 7, 255, 256, 257, 511, 512,
		65535, 65536, 99999, 100000, math.MaxUint32, math.MaxUint32 + 1, 1 << 62, math.MaxInt64 - 255, math.MaxInt64}
	small := []int{math.MinInt, -1, 0, 1, 2, 3, 31, 32, 33, 256, math.MaxInt}
	for _, kind := range append(small, 4, 5, 6, 7, 8, 9, 10, 11) {
		for _, n := range numbers {
			for _, dir := range small {
				for _, size := range small {
					right := rightTest(kind, dir, n, size)
					l := []Node{{Kind: kind, Dir: dir, N: n, Len: size}}
					if got := Right(l); (got == api.OK) != right || !right && got != api.ErrExpr {
						t.Error(l, got)
					}
				}
			}
		}
	}
}

// rightTest tells by the table whether a test can be.
func rightTest(kind, dir int, n int64, size int) bool {
	switch kind {
	case 1:
		return dir == 0 && size == 0 && (n == 4 || n == 6 || n >= 256 && n < 512)
	case 2:
		return dir >= 0 && dir <= 2 && size == 0 && n >= 0 && n < 1<<32
	case 3:
		return dir >= 0 && dir <= 2 && size >= 0 && size <= 32 && n >= 0 && n < 1<<32
	case 4:
		return dir >= 0 && dir <= 2 && size == 0 && n >= 0 && n < 65536
	case 5, 6:
		return dir == 0 && size == 0 && n >= 0 && n < 65536
	}
	return false
}

func TestRightRefusesWhatANodeHasNot(t *testing.T) {
	whole := []Node{
		{Kind: 1, N: 4}, {Kind: 2, Dir: 1, N: 5}, {Kind: 9, B: 1}, {Kind: 10, A: 2}, {Kind: 7, A: 3},
		{Kind: 4, Dir: 2, N: 8}, {Kind: 8, A: 4, B: 5},
	}
	prints(t, whole, "not (ip or src host 0.0.0.5) and dst port 8")
	for i, n := range whole {
		for what, field := range map[string]func(n *Node) *int{
			"kind": func(n *Node) *int { return &n.Kind }, "dir": func(n *Node) *int { return &n.Dir },
			"len": func(n *Node) *int { return &n.Len }, "a": func(n *Node) *int { return &n.A }, "b": func(n *Node) *int { return &n.B },
		} {
			for _, to := range []int{math.MinInt, -2, -1, 1, 2, 3, 4, 5, 6, 7, 11, 99, 1 << 32, math.MaxInt} {
				l := slices.Clone(whole)
				if *field(&l[i]) == to {
					continue
				}
				*field(&l[i]) = to
				switch {
				case what == "dir" && (n.Kind == 2 || n.Kind == 4) && to <= 2 && to > 0:
				case what == "kind" && n.Kind == 2 && (to == 3 || to == 4), what == "kind" && n.Kind == 4 && (to == 2 || to == 3):
				case what == "kind" && n.Kind == 1 && to > 1 && to <= 6: // 4 is a number that each kind may have
				default:
					isNone(t, what, l)
				}
			}
		}
		if n.Kind >= 7 {
			l := slices.Clone(whole)
			l[i].N = 1
			isNone(t, "n", l)
		}
	}
}

func TestRightRefusesOtherOrders(t *testing.T) {
	ip, ip6, less := Node{Kind: 1, N: 4}, Node{Kind: 1, N: 6}, Node{Kind: 5, N: 7}
	for what, l := range map[string][]Node{
		"none":                     {},
		"two roots":                {ip, ip6},
		"a root and another":       {ip, {Kind: 7}, ip6},
		"a part behind":            {{Kind: 7, A: 1}, ip},
		"itself as a part":         {{Kind: 7}},
		"no part":                  {{Kind: 8}},
		"one part twice":           {ip, {Kind: 8}},
		"one part of two nodes":    {ip, {Kind: 7}, {Kind: 7}, {Kind: 8, A: 1, B: 2}},
		"parts turned":             {ip, ip6, {Kind: 8, A: 1, B: 0}},
		"a node left out":          {ip, ip6, {Kind: 7, A: 1}},
		"an or in an and, ahead":   {ip, ip6, {Kind: 9, B: 1}, less, {Kind: 8, A: 2, B: 3}},
		"an or in an and, behind":  {ip, ip6, less, {Kind: 9, A: 1, B: 2}, {Kind: 8, A: 0, B: 3}},
		"an or in an or, behind":   {ip, ip6, less, {Kind: 9, A: 1, B: 2}, {Kind: 9, A: 0, B: 3}},
		"an and in an and, behind": {ip, ip6, less, {Kind: 8, A: 1, B: 2}, {Kind: 8, A: 0, B: 3}},
		"an and in a not":          {ip, ip6, {Kind: 8, B: 1}, {Kind: 7, A: 2}},
		"an or in a not":           {ip, ip6, {Kind: 9, B: 1}, {Kind: 7, A: 2}},
		"another order":            {ip6, ip, less, {Kind: 9, A: 0, B: 2}, {Kind: 9, A: 1, B: 3}},
		"parts ahead of parts":     {ip, ip6, {Kind: 7, A: 0}, {Kind: 7, A: 1}, {Kind: 8, A: 2, B: 3}},
	} {
		isNone(t, what, l)
	}
}

func TestRightAtTheLimits(t *testing.T) {
	ip := Node{Kind: 1, N: 4}
	for n := range 40 {
		l := []Node{ip}
		for i := range n {
			l = append(l, Node{Kind: []int{7, 10}[i%2], A: i})
		}
		if e := Right(l); (e == api.OK) != (n <= 30) {
			t.Error(n, e)
		}
	}
	long := func(tests int, one Node) []Node {
		l := []Node{one}
		for i := 1; i < tests; i++ {
			l = append(l, one, Node{Kind: 9, A: 2*i - 2, B: 2*i - 1})
		}
		return l
	}
	for n := 95; n < 105; n++ {
		if e := Right(long(n, ip)); (e == api.OK) != (n <= 100) {
			t.Error(n, e)
		}
	}
	host := Node{Kind: 2, Dir: 1, N: 0x01020304} // 16 bytes, and 4 for each or
	for n := 40; n < 60; n++ {
		if e := Right(long(n, host)); (e == api.OK) != (20*n-4 <= 1024) {
			t.Error(n, e)
		}
	}
	host.N = 0
	isNone(t, "very many", long(1<<17, host))
}

func TestRightOfWhatHasATextWithoutEnd(t *testing.T) {
	for _, size := range []int{3, 30, 199, 200, 201, 1 << 17} {
		l := []Node{{Kind: 1, N: 4}}
		for i := range size {
			l = append(l, Node{Kind: 8, A: i, B: i})
		}
		isNone(t, "parts that are many nodes'", l)
		isNone(t, "nothing but zeros", make([]Node, size))
		clear(l)
		for i := range l {
			l[i] = Node{Kind: 10, A: i}
		}
		isNone(t, "nodes in themselves", l)
	}
}

func TestSame(t *testing.T) {
	l := []Node{{Kind: 1, N: 4}, {Kind: 7}}
	for _, c := range []struct {
		a, b []Node
		want bool
	}{
		{nil, nil, true}, {nil, []Node{}, true}, {l, l, true}, {l, slices.Clone(l), true},
		{l, l[:1], false}, {l[:1], l, false}, {nil, l, false}, {l, nil, false}, {[]Node{{}}, nil, false},
		{[]Node{{Kind: -9, N: math.MaxInt64}}, []Node{{Kind: -9, N: math.MaxInt64}}, true}, // lists that can not be, too
	} {
		if Same(c.a, c.b) != c.want {
			t.Error(c)
		}
	}
	for _, n := range []Node{{Kind: 1}, {Dir: 1}, {N: 1}, {Len: 1}, {A: 1}, {B: 1}} {
		if Same([]Node{{}}, []Node{n}) || Same([]Node{n, {}}, []Node{{}, n}) || !Same([]Node{n}, []Node{n}) {
			t.Error(n)
		}
	}
}

func TestListsOfAnyNodes(t *testing.T) {
	var d draws = 3
	right := 0
	for range 200000 {
		l := make([]Node, d.next(7))
		for i := range l {
			l[i] = d.node(i)
		}
		s, e := Print(l)
		if e != Right(l) || (e == api.OK) != (s != "") {
			t.Fatal(l, s, e)
		}
		if e != api.OK {
			continue
		}
		right++
		if again, e, _ := newModel(s).read(s); e != api.OK || !slices.Equal(again, l) {
			t.Fatal(l, s, again)
		}
	}
	if right < 5000 {
		t.Error("few were right:", right)
	}
}

// node answers the node i of some list.
func (d *draws) node(i int) Node {
	n := Node{Kind: 1 + d.next(10)}
	switch n.Kind {
	case 7, 10:
		n.A = max(i-1-d.next(2)*d.next(2), 0)
	case 8, 9:
		n.A, n.B = max(i-2-d.next(3), 0), max(i-1, 0)
	case 1:
		n.N = []int64{4, 6, 257, 262, 273, 300}[d.next(6)]
	case 3:
		n.Len = d.next(33)
		fallthrough
	default:
		n.N = int64(d.next(4))
	}
	if d.next(30) == 0 {
		n.Dir = d.next(3)
	}
	return n
}

// notRight are lists on which each call is tried.
func notRight() [][]Node {
	odd := []int{math.MinInt, -1, 0, 1, 7, 10, math.MaxInt}
	var out [][]Node
	for _, kind := range append(odd, 2, 3, 4, 5, 6, 8, 9, 11) {
		for _, a := range odd {
			for _, b := range odd {
				out = append(out, []Node{{Kind: kind, Dir: a, N: int64(b), Len: a, A: a, B: b}, {Kind: kind, A: a, B: b}, {Kind: kind, A: b, B: a}})
			}
		}
	}
	return out
}

// P1

func TestNothingPanics(t *testing.T) {
	for _, l := range notRight() {
		for n := range len(l) + 1 {
			isNoneOrPrints(t, l[:n])
		}
	}
	isNoneOrPrints(t, nil)
	for _, s := range []string{strings.Repeat("\xff", 1024), strings.Repeat("(", 1<<22), strings.Repeat("\x00", 1000), "\xf0\x9f"} {
		if l, e, _ := Parse(s); l != nil || e == api.OK {
			t.Errorf("%.99q: %d", s, e)
		}
	}
}

func isNoneOrPrints(t *testing.T, l []Node) {
	t.Helper()
	s, e := Print(l)
	held, f := Holds(l, []byte{1})
	if e != Right(l) || e != f || e != api.OK && (e != api.ErrExpr || held || s != "") || !Same(l, l) {
		t.Error(l, s, e, f)
	}
}
