package filter

import (
	"strings"
	"testing"

	"tether/api"
)

// P23.1

func TestParseOfTheExamples(t *testing.T) {
	for s, want := range map[string][]Node{
		"tcp and (dst port 80 or dst port 443)": {
			{Kind: Proto, N: 262}, {Kind: Port, Dir: Dst, N: 80}, {Kind: Port, Dir: Dst, N: 443},
			{Kind: Or, A: 1, B: 2}, {Kind: Paren, A: 3}, {Kind: And, A: 0, B: 4},
		},
		"not icmp or ip6": {{Kind: Proto, N: 257}, {Kind: Not}, {Kind: Proto, N: 6}, {Kind: Or, A: 1, B: 2}},
	} {
		if l, e, at := Parse(s); !Same(l, want) || e != api.OK || at != 0 {
			t.Error(s, l, e, at)
		}
	}
}

func TestParseOfEachForm(t *testing.T) {
	for s, want := range map[string]Node{
		"ip":                          {Kind: 1, N: 4},
		"ip6":                         {Kind: 1, N: 6},
		"icmp":                        {Kind: 1, N: 257},
		"tcp":                         {Kind: 1, N: 262},
		"udp":                         {Kind: 1, N: 273},
		"proto 0":                     {Kind: 1, N: 256},
		"proto 1":                     {Kind: 1, N: 257},
		"proto 255":                   {Kind: 1, N: 511},
		"host 1.2.3.4":                {Kind: 2, N: 0x01020304},
		"src host 0.0.0.0":            {Kind: 2, Dir: 1},
		"dst host 255.255.255.255":    {Kind: 2, Dir: 2, N: 1<<32 - 1},
		"net 1.2.3.4/0":               {Kind: 3, N: 0x01020304},
		"src net 10.0.0.9/8":          {Kind: 3, Dir: 1, N: 0x0a000009, Len: 8},
		"dst net 10.0.0.0/32":         {Kind: 3, Dir: 2, N: 0x0a000000, Len: 32},
		"port 0":                      {Kind: 4},
		"src port 80":                 {Kind: 4, Dir: 1, N: 80},
		"dst port 65535":              {Kind: 4, Dir: 2, N: 65535},
		"less 0":                      {Kind: 5},
		"less 65535":                  {Kind: 5, N: 65535},
		"greater 0":                   {Kind: 6},
		"greater 65535":               {Kind: 6, N: 65535},
		"\t src\t \tport   7\t":       {Kind: 4, Dir: 1, N: 7},
		"   dst    host\t99.99.99.99": {Kind: 2, Dir: 2, N: 0x63636363},
	} {
		if l, e, at := Parse(s); !Same(l, []Node{want}) || e != api.OK || at != 0 {
			t.Error(s, l, e, at)
		}
	}
}

func TestParseBinds(t *testing.T) {
	for a, b := range map[string]string{
		"ip or tcp and udp":          "ip||tcp&&udp",
		"not ip and not tcp or udp":  "!ip&&!tcp||udp",
		"not not (ip)":               "!!(ip)",
		"ip and (tcp or udp) or ip6": "ip &&(tcp || udp)||\tip6 ",
	} {
		l, e, _ := Parse(a)
		m, f, _ := Parse(b)
		if e != api.OK || f != api.OK || !Same(l, m) {
			t.Error(a, b, l, m)
		}
	}
	for s, want := range map[string][]int{ // the kinds, behind their parts
		"ip or tcp and udp":  {1, 1, 1, 8, 9},
		"ip and tcp or udp":  {1, 1, 8, 1, 9},
		"ip or tcp or udp":   {1, 1, 9, 1, 9},
		"ip and tcp and udp": {1, 1, 8, 1, 8},
		"not ip or tcp":      {1, 7, 1, 9},
		"not ip and tcp":     {1, 7, 1, 8},
		"not (ip and tcp)":   {1, 1, 8, 10, 7},
		"ip or (tcp or udp)": {1, 1, 1, 9, 10, 9},
		"ip and not not tcp": {1, 1, 7, 7, 8},
		"((ip) and (tcp))":   {1, 10, 1, 10, 8, 10},
	} {
		l, _, _ := Parse(s)
		var got []int
		for _, n := range l {
			got = append(got, n.Kind)
		}
		if len(got) != len(want) {
			t.Error(s, got)
			continue
		}
		for i := range got {
			if got[i] != want[i] {
				t.Error(s, got)
			}
		}
	}
}

func TestParseTellsTheFirstFault(t *testing.T) {
	for _, c := range []struct {
		s  string
		e  api.Errno
		at int
	}{
		{"host 1.2.3", api.ErrToken, 5},
		{"and", api.ErrExpr, 0},
		{"tcp tcp", api.ErrExpr, 4},
		{"", api.ErrExpr, 0},
		{" \t ", api.ErrExpr, 3},
		{"tcp and", api.ErrExpr, 7},
		{"tcp and  ", api.ErrExpr, 9},
		{"not", api.ErrExpr, 3},
		{"(tcp", api.ErrExpr, 4},
		{"(tcp ", api.ErrExpr, 5},
		{"tcp)", api.ErrExpr, 3},
		{"()", api.ErrExpr, 1},
		{"tcp !", api.ErrExpr, 4},
		{"tcp (", api.ErrExpr, 4},
		{"tcp not ip", api.ErrExpr, 4},
		{"tcp 12", api.ErrExpr, 4},
		{"12", api.ErrExpr, 0},
		{"012", api.ErrExpr, 0},
		{"1234567", api.ErrExpr, 0},
		{"tcp and 00000000", api.ErrExpr, 8},
		{"(tcp 5", api.ErrExpr, 5},
		{"(tcp xyz", api.ErrToken, 5},
		{"1.2.3.4", api.ErrToken, 0},
		{"tcp 1.2.3.4", api.ErrToken, 4},
		{"tcp 1.2.3.4/8", api.ErrToken, 4},
		{"12a", api.ErrToken, 0},
		{"1.", api.ErrToken, 0},
		{"TCP", api.ErrToken, 0},
		{"Tcp", api.ErrToken, 0},
		{"tcp/udp", api.ErrToken, 0},
		{"tcpudp", api.ErrToken, 0},
		{"ip4", api.ErrToken, 0},
		{"tcp and xyz and", api.ErrToken, 8},
		{"tcp & udp", api.ErrToken, 4},
		{"tcp&&&udp", api.ErrToken, 5},
		{"tcp | udp", api.ErrToken, 4},
		{"tcp|||udp", api.ErrToken, 5},
		{"&& &", api.ErrExpr, 0},
		{"tcp\nand udp", api.ErrToken, 3},
		{"tcp\r", api.ErrToken, 3},
		{"tcp\v", api.ErrToken, 3},
		{"tcp\x00", api.ErrToken, 3},
		{"tcp\u00a0", api.ErrToken, 3},
		{"tcp\xff", api.ErrToken, 3},
		{"-tcp", api.ErrToken, 0},
		{"tcp_", api.ErrToken, 3},
		{"src", api.ErrExpr, 3},
		{"src ", api.ErrExpr, 4},
		{"src src host 1.2.3.4", api.ErrExpr, 4},
		{"src tcp", api.ErrExpr, 4},
		{"src proto 6", api.ErrExpr, 4},
		{"dst less 6", api.ErrExpr, 4},
		{"dst greater 6", api.ErrExpr, 4},
		{"dst 80", api.ErrExpr, 4},
		{"dst 1.2.3.4", api.ErrToken, 4},
		{"dst xyz", api.ErrToken, 4},
		{"dst (", api.ErrExpr, 4},
		{"dst %", api.ErrToken, 4},
		{"host", api.ErrExpr, 4},
		{"host tcp", api.ErrToken, 5},
		{"host (", api.ErrToken, 5},
		{"host 12", api.ErrToken, 5},
		{"host 1.2.3.4/8", api.ErrToken, 5},
		{"host 1.2.3.4.5", api.ErrToken, 5},
		{"host 1.2.3.256", api.ErrToken, 5},
		{"host 1.2.3.04", api.ErrToken, 5},
		{"host 1.2.3.1000", api.ErrToken, 5},
		{"host 1.2..4", api.ErrToken, 5},
		{"host 1.2.3.a", api.ErrToken, 5},
		{"host 1.2.3.4 5", api.ErrExpr, 13},
		{"net", api.ErrExpr, 3},
		{"net 1.2.3.4", api.ErrToken, 4},
		{"net 1.2.3.4/", api.ErrToken, 4},
		{"net 1.2.3.4/33", api.ErrToken, 4},
		{"net 1.2.3.4/08", api.ErrToken, 4},
		{"net 1.2.3.4/8/8", api.ErrToken, 4},
		{"net /8", api.ErrToken, 4},
		{"net 1.2.3/8", api.ErrToken, 4},
		{"net 1.2.3.4 /8", api.ErrToken, 4},
		{"port", api.ErrExpr, 4},
		{"port 65536", api.ErrToken, 5},
		{"port 99999", api.ErrToken, 5},
		{"port 100000", api.ErrToken, 5},
		{"port 00", api.ErrToken, 5},
		{"port 080", api.ErrToken, 5},
		{"port -1", api.ErrToken, 5},
		{"port +1", api.ErrToken, 5},
		{"port 1.5", api.ErrToken, 5},
		{"port 80a", api.ErrToken, 5},
		{"port 0x50", api.ErrToken, 5},
		{"port and", api.ErrToken, 5},
		{"port !80", api.ErrToken, 5},
		{"port 99999999999999999999999", api.ErrToken, 5},
		{"proto", api.ErrExpr, 5},
		{"proto 256", api.ErrToken, 6},
		{"proto tcp", api.ErrToken, 6},
		{"less", api.ErrExpr, 4},
		{"less 65536", api.ErrToken, 5},
		{"greater", api.ErrExpr, 7},
		{"greater 65536", api.ErrToken, 8},
	} {
		if l, e, at := Parse(c.s); l != nil || e != c.e || at != c.at {
			t.Errorf("%q: %v %d %d, not %d %d", c.s, l, e, at, c.e, c.at)
		}
		if _, e, at := newModel(c.s).read(c.s); e != c.e || at != c.at {
			t.Errorf("the model of %q: %d %d", c.s, e, at)
		}
	}
}

func TestParseAtEveryByte(t *testing.T) {
	for c := range 256 {
		for _, s := range []string{"@", "tcp@", "tcp @ udp", "port @", "port 8@", "tcp@udp", "host 1.2.3.4@", "&@", "@tcp"} {
			s = strings.ReplaceAll(s, "@", string([]byte{byte(c)}))
			agrees(t, s)
		}
	}
}

func TestParseTooDeep(t *testing.T) {
	for _, c := range []struct {
		open, close string
	}{{"(", ")"}, {"!", ""}, {"not ", ""}, {"!(", ")"}} {
		per := strings.Count(strings.ReplaceAll(c.open, "not ", "!"), "!") + strings.Count(c.open, "(")
		n := 30 / per
		right := strings.Repeat(c.open, n) + "tcp" + strings.Repeat(c.close, n)
		for _, s := range []string{right, right + " and " + right, right + "||" + right} {
			if l, e, at := Parse(s); l == nil || e != api.OK || at != 0 {
				t.Errorf("%q: %v %d %d", s, l, e, at)
			}
		}
		for _, more := range []string{"(", "not ", "!"} {
			s := strings.Repeat(c.open, n) + more
			for _, tail := range []string{"", "tcp", "%", ")"} {
				if l, e, at := Parse(s + tail); l != nil || e != api.ErrDeep || at != len(s)-len(more) {
					t.Errorf("%q: %v %d %d", s+tail, l, e, at)
				}
			}
		}
		for _, tail := range []string{" (", " not", " !", " and", " port", ")))"} {
			s := strings.Repeat(c.open, n) + "tcp" + tail
			agrees(t, s)
		}
		agrees(t, strings.Repeat(c.open, n)+"port (")
		agrees(t, strings.Repeat(c.open, n)+"tcp and (")
		agrees(t, strings.Repeat(c.open, n)+"tcp and !")
	}
	for _, s := range []string{strings.Repeat("(", 1024), strings.Repeat("!", 1024)} {
		if l, e, at := Parse(s); l != nil || e != api.ErrDeep || at != 30 {
			t.Error(l, e, at)
		}
	}
}

func TestParseTooLong(t *testing.T) {
	tail := strings.Repeat(" ", 1025)
	for _, s := range []string{"tcp", "tcp and udp", "%", "", "port", "tcp tcp"} {
		agrees(t, s+tail[:1024-len(s)])
		agrees(t, tail[:1024-len(s)]+s)
		if l, e, at := Parse(tail[:1025-len(s)] + s); l != nil || e != api.ErrSize || at != 0 {
			t.Error(l, e, at)
		}
	}
	if l, e, at := Parse(strings.Repeat("(", 1<<20)); l != nil || e != api.ErrSize || at != 0 {
		t.Error(l, e, at)
	}
}

func TestParseTooMany(t *testing.T) {
	for tests := 90; tests < 120; tests++ {
		s := strings.Repeat("ip&&", tests-1) + "ip"
		l, e, at := Parse(s)
		if tests <= 100 && (len(l) != 2*tests-1 || e != api.OK) || tests > 100 && (l != nil || e != api.ErrFull) || at != 0 {
			t.Error(tests, len(l), e, at)
		}
		if l, e, at = Parse(s + "%"); l != nil || e != api.ErrToken || at != len(s) {
			t.Error("a fault goes ahead", e, at)
		}
		if l, e, at = Parse("!" + s); (e == api.OK) != (tests <= 100) || at != 0 {
			t.Error("200 nodes may be", tests, len(l), e)
		}
		agrees(t, s)
		agrees(t, "!"+s)
		if l, e, at = Parse("!(" + s + ")"); (e == api.OK) != (tests <= 99) || at != 0 {
			t.Error("201 may not", tests, len(l), e)
		}
	}
}

func TestParseOfWhatPrintsTooLong(t *testing.T) {
	one := "dst host 1.2.3.4"               // 16 bytes
	s := strings.Repeat(one+"&&", 48) + one // 48 * 18 + 16 = 880, printed 48 * 21 + 16 = 1024
	if l, e, at := Parse(s); len(l) != 97 || e != api.OK || at != 0 {
		t.Error(len(l), e, at)
	}
	if l, e, at := Parse(strings.Replace(s, "1.2", "10.2", 1)); l != nil || e != api.ErrFull || at != 0 {
		t.Error(len(l), e, at)
	}
	if l, e, at := Parse(strings.Replace(s, "&&", "||", 1)); len(l) != 97 || e != api.OK || at != 0 {
		t.Error(len(l), e, at)
	}
	if l, e, at := Parse(strings.Replace(s, "1.2", "10.2", 1) + ")"); l != nil || e != api.ErrExpr || at != len(s)+1 {
		t.Error(len(l), e, at)
	}
	agrees(t, strings.Repeat(" "+one, 1)+strings.Repeat(" and "+one, 48))
}

// agrees checks that Parse answers of s what the model does, and that what it answers is read again.
func agrees(t *testing.T, s string) []Node {
	t.Helper()
	l, e, at := Parse(s)
	m := newModel(s)
	want, f, place := m.read(s)
	if !Same(l, want) || e != f || at != place || e != api.OK && l != nil {
		t.Fatalf("%q: %v %d %d, not %v %d %d", s, l, e, at, want, f, place)
	}
	if e != api.OK {
		return nil
	}
	text, e := Print(l)
	if e != api.OK || text != m.text(len(l)-1) || Right(l) != api.OK {
		t.Fatalf("%q: %q %d", s, text, e)
	}
	if again, e, _ := Parse(text); e != api.OK || !Same(again, l) {
		t.Fatalf("%q: %v %d", text, again, e)
	}
	return l
}

// P23.4

func TestExpressionsAreReadAsTheyWere(t *testing.T) {
	var d draws = 1
	right := 0
	for range 20000 {
		s := d.drawn(1 + d.next(12))
		if agrees(t, s) != nil {
			right++
		}
		agrees(t, d.spoiled(s))
	}
	if right < 15000 {
		t.Error("few could be read:", right)
	}
	for range 50 {
		agrees(t, d.drawn(30+d.next(50)))
	}
}

func TestTokensInAnyOrder(t *testing.T) {
	var d draws = 2
	right := 0
	for range 100000 {
		var s string
		for range d.next(8) {
			s += d.of("", " ", "\t") + d.of("ip", "tcp", "port", "src", "host", "(", ")", "!", "&&", "and ", "not ", "5", "1.2.3.4", "||", "x", "%")
		}
		if agrees(t, s) != nil {
			right++
		}
	}
	if right < 1000 {
		t.Error("few could be read:", right)
	}
}

func TestParseKeepsNothing(t *testing.T) {
	l, _, _ := Parse("ip or tcp")
	clear(l)
	_ = append(l[:0], Node{Kind: Less}, Node{Kind: More})
	if m, e, _ := Parse("ip or tcp"); e != api.OK || m[0].N != 4 || m[2].Kind != Or {
		t.Error(m, e)
	}
}
