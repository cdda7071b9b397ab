package spell

import (
	"errors"
	"math"
	"slices"
	"strings"
	"testing"

	"tether/api"
)

func TestName(t *testing.T) {
	for i := range 256 {
		c := string([]byte{byte(i)})
		right := i >= 32 && i <= 126 && i != '"' && i != '\\'
		for _, s := range []string{c, "a" + c, c + "a", strings.Repeat(c, 64)} {
			if Name(s) != right {
				t.Errorf("%q", s)
			}
		}
		if Name(strings.Repeat(c, 65)) {
			t.Errorf("65 of %q", c)
		}
	}
	if Name("") || Name("ä") || Name(strings.Repeat("n", 1<<20)) {
		t.Error("a name that is none")
	}
}

func TestFour(t *testing.T) {
	if n, e := Four("1.2.3.4", ".", 10, 1, 4); n != 0x1234 || e != api.OK {
		t.Error(n, e)
	}
	if n, e := Four("f-f-f-f", "-", 16, 1, 4); n != 0xffff || e != api.OK {
		t.Error(n, e)
	}
	for _, s := range []string{"", "1", "1.2.3", "1.2.3.4.5", "1.2.3.16", "1.2.3.04", "1.2.3.-4", "1.2.3.", "1.2.3.a", "1-2-3-4"} {
		if n, e := Four(s, ".", 10, 1, 4); n != 0 || e != api.ErrAddr {
			t.Error(s, n, e)
		}
	}
}

func TestAddrText(t *testing.T) {
	for _, c := range []struct {
		n int64
		s string
	}{{0, "0.0.0.0"}, {1<<32 - 1, "255.255.255.255"}, {0x0a000102, "10.0.1.2"}} {
		if s, e := AddrText(c.n); s != c.s || e != api.OK {
			t.Error(c.n, s, e)
		}
		if n, e := Addr(c.s); n != c.n || e != api.OK {
			t.Error(c.s, n, e)
		}
	}
	for _, n := range []int64{-1, 1 << 32, math.MinInt64, math.MaxInt64} {
		if s, e := AddrText(n); s != "" || e != api.ErrAddr {
			t.Error(n, s, e)
		}
	}
}

func TestWords(t *testing.T) {
	for _, c := range []struct {
		line, ends string
		want       []string
		ok         bool
	}{
		{"a#b c", Blanks, []string{"a#b", "c"}, true},
		{"a#b c", Blanks + "#", []string{"a"}, true},
		{"a #b c", Blanks, []string{"a"}, true},
		{`"a#b"#c`, Blanks, nil, false},
		{`"a#b"#c`, Blanks + "#", []string{"a#b"}, true},
		{`"a\\\"b" c`, Blanks, []string{`a\"b`, "c"}, true},
		{`"a\b"`, Blanks, nil, false},
		{`"a`, Blanks, nil, false},
		{`a"`, Blanks, nil, false},
		{"\"\x00\n\xff\" \x01\n", Blanks, []string{"\x00\n\xff", "\x01\n"}, true},
		{"", Blanks, nil, true},
	} {
		if got, ok := Words(c.line, c.ends); ok != c.ok || !slices.Equal(got, c.want) {
			t.Errorf("%q: %q %v", c.line, got, ok)
		}
	}
}

func TestFault(t *testing.T) {
	what := errors.New("what")
	err := error(&Fault{Line: 3, What: what})
	var f *Fault
	if !errors.Is(err, what) || !errors.As(err, &f) || f.Line != 3 || err.Error() != "line 3: what" {
		t.Error(err)
	}
}
