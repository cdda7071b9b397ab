package pool

import (
	"math"
	"slices"
	"strconv"
	"strings"
	"testing"

	"tether/api"
)

// draws is a chain of numbers that are the same at each run.
type draws uint64

func (d *draws) next(below int) int {
	*d = *d*6364136223846793005 + 1442695040888963407
	return int(uint64(*d)>>33) % below
}

// from answers count addresses, one above the other.
func from(first int64, count int) []int64 {
	l := make([]int64, count)
	for i := range l {
		l[i] = first + int64(i)
	}
	return l
}

// noAddrs are numbers that can not be lent.
func noAddrs() []int64 {
	return []int64{math.MinInt64, -1 << 32, -1, 0, 1 << 32, 1<<32 + 1, math.MaxInt64}
}

// P16.1

func TestParse(t *testing.T) {
	const ten = 0x0a000000
	for s, want := range map[string][]int64{
		"10.0.0.1":                              {ten + 1},
		"0.0.0.1":                               {1},
		"255.255.255.255":                       {math.MaxUint32},
		"10.0.0.1 - 10.0.0.2, 10.0.0.9":         {ten + 1, ten + 2, ten + 9},
		"10.0.0.1-10.0.0.1":                     {ten + 1},
		"10.0.0.9,10.0.0.1":                     {ten + 9, ten + 1},
		"10.0.0.254-10.0.1.1":                   {ten + 254, ten + 255, ten + 256, ten + 257},
		"255.255.255.254-255.255.255.255":       {math.MaxUint32 - 1, math.MaxUint32},
		" \t10.0.0.1\t-\t 10.0.0.2 ,\t1.2.3.4 ": {ten + 1, ten + 2, 0x01020304},
		"100.10.20.199":                         {0x640a14c7},
		"1.0.0.0":                               {1 << 24},
		"10.0.0.1-10.0.1.0":                     from(ten+1, 256),
		"10.0.0.1-10.0.0.255,10.0.2.0":          append(from(ten+1, 255), ten+512),
	} {
		if got, e, at := Parse(s); !slices.Equal(got, want) || e != api.OK || at != 0 {
			t.Errorf("%q: %v %v %v", s, got, e, at)
		}
	}
}

// faulty checks that a text is refused.
func faulty(t *testing.T, s string, want api.Errno, part int) {
	t.Helper()
	if got, e, at := Parse(s); len(got) != 0 || e != want || at != part {
		t.Errorf("%.80q: %v %v %v, not %v %v", s, len(got), e, at, want, part)
	}
}

func TestParseRefusesWhatIsNoAddress(t *testing.T) {
	for _, s := range []string{
		"", " ", "\t", "0.0.0.0", "1", "1.2", "1.2.3", "1.2.3.", ".1.2.3", "1.2.3.4.", "1.2.3.4.5", "1..2.3",
		"256.1.1.1", "1.256.1.1", "1.1.1.256", "1.1.1.1000", "1.1.1.18446744073709551617",
		"01.1.1.1", "1.1.1.01", "1.00.1.1", "1.1.000.1", "1.1.1.00", "010.1.1.1",
		"-1.1.1.1", "+1.1.1.1", "1.1.1.+1", "1.1.1.0x1", "1.1.1.1_0", "a.b.c.d", "1.1.1.a",
		"1. 1.1.1", "1 .1.1.1", "1.1.1. 1", "1.1.1.1 2", "1.1.1.1 1.1.1.2", "1.1.1.1\n", "\r1.1.1.1", "1.1.1.1\x00", "\v1.1.1.1", "\u00a01.1.1.1", "1.1.1.\xff", "1.1.1.١",
		"-", "1.1.1.1-", "-1.1.1.1", "1.1.1.1--1.1.1.2", "1.1.1.1-1.1.1.2-1.1.1.3", "1.1.1.1-2", "1-1.1.1.2",
		"10.0.0.2-10.0.0.1", "1.0.0.0-0.255.255.255", "255.255.255.255-0.0.0.1",
		"0.0.0.0-0.0.0.5", "0.0.0.0-0.0.0.0", "0.0.0.1-0.0.0.0", "1.1.1.1-01.1.1.2", "1.1.1.1-1.1.1.256",
		"1.1.1.1;1.1.1.2", "1.1.1.1:", "1.1.1.1/32", "\"1.1.1.1\"", "1.1.1.1–1.1.1.2",
	} {
		faulty(t, s, api.ErrAddr, 0)
		faulty(t, s+",1.1.1.1", api.ErrAddr, 0)
		faulty(t, "9.1.1.1,"+s, api.ErrAddr, 1)
		faulty(t, "9.1.1.1-9.1.1.3 , 9.1.1.9, "+s+",x", api.ErrAddr, 2)
	}
	faulty(t, "1.1.1.1,", api.ErrAddr, 1)
	faulty(t, ",1.1.1.1", api.ErrAddr, 0)
	faulty(t, "1.1.1.1,,1.1.1.2", api.ErrAddr, 1)
	faulty(t, ",", api.ErrAddr, 0)
}

func TestParseRefusesWhatIsThereTwice(t *testing.T) {
	faulty(t, "1.1.1.1,1.1.1.1", api.ErrTwice, 1)
	faulty(t, "1.1.1.1,1.1.1.2,1.1.1.3,1.1.1.1,x", api.ErrTwice, 3)
	faulty(t, "1.1.1.1-1.1.1.9, 1.1.1.9", api.ErrTwice, 1)
	faulty(t, "1.1.1.9, 1.1.1.1-1.1.1.9, x", api.ErrTwice, 1)
	faulty(t, "1.1.1.1-1.1.1.5, 1.1.1.7, 1.1.1.3-1.1.1.9", api.ErrTwice, 2)
	faulty(t, "1.1.1.1-1.1.1.255, 1.1.1.7", api.ErrTwice, 1)
}

func TestParseRefusesTooMany(t *testing.T) {
	faulty(t, "1.1.1.0-1.1.2.0", api.ErrFull, 0)
	faulty(t, "0.0.0.1-255.255.255.255", api.ErrFull, 0)
	faulty(t, "1.1.1.0-1.1.1.255,x", api.ErrAddr, 1)
	faulty(t, "1.1.1.0-1.1.1.255, 9.1.1.1,x", api.ErrFull, 1)
	faulty(t, "9.1.1.1, 8.1.1.1, 1.1.1.0-1.1.1.254,x", api.ErrFull, 2)
	// too many goes ahead of twice, in one part; the part ahead goes ahead of both
	faulty(t, "1.1.1.0-1.1.1.255, 1.1.1.7", api.ErrFull, 1)
	faulty(t, "1.1.1.0-1.1.1.199, 1.1.1.0-1.1.1.199", api.ErrFull, 1)
	faulty(t, "1.1.1.0-1.1.1.199, 1.1.1.7, 2.1.1.0-2.1.1.199", api.ErrTwice, 1)
	faulty(t, "1.1.1.7, x, 2.1.1.0-2.1.3.199", api.ErrAddr, 1)
	var parts []string
	for i := range 257 {
		parts = append(parts, "7.7."+strconv.Itoa(i/256)+"."+strconv.Itoa(i%256))
	}
	if got, e, at := Parse(strings.Join(parts[:256], ",")); len(got) != 256 || e != api.OK || at != 0 {
		t.Error(len(got), e, at)
	}
	faulty(t, strings.Join(parts, ","), api.ErrFull, 256)
}

func TestParseOfALongText(t *testing.T) {
	s := "1.1.1.1" + strings.Repeat(" ", api.MaxText-7)
	if got, e, at := Parse(s); !slices.Equal(got, []int64{0x01010101}) || e != api.OK || at != 0 {
		t.Error(got, e, at)
	}
	faulty(t, s+" ", api.ErrSize, 0)
	faulty(t, strings.Repeat(",", api.MaxText), api.ErrAddr, 0)
	faulty(t, strings.Repeat(",", api.MaxText+1), api.ErrSize, 0)
	faulty(t, strings.Repeat("1.1.1.1,", 9000), api.ErrSize, 0)
}

func TestPrint(t *testing.T) {
	for _, c := range []struct {
		l    []int64
		want string
	}{
		{nil, ""},
		{[]int64{}, ""},
		{[]int64{1}, "0.0.0.1"},
		{[]int64{math.MaxUint32}, "255.255.255.255"},
		{[]int64{0x01000001, 0x01000002, 0x01000004}, "1.0.0.1-1.0.0.2, 1.0.0.4"},
		{[]int64{3, 2, 1}, "0.0.0.3, 0.0.0.2, 0.0.0.1"},
		{[]int64{3, 4, 2, 5, 6, 7}, "0.0.0.3-0.0.0.4, 0.0.0.2, 0.0.0.5-0.0.0.7"},
		{[]int64{1, 3, 5}, "0.0.0.1, 0.0.0.3, 0.0.0.5"},
		{[]int64{math.MaxUint32 - 1, math.MaxUint32, 1}, "255.255.255.254-255.255.255.255, 0.0.0.1"},
		{from(0xff, 256), "0.0.0.255-0.0.1.254"},
	} {
		before := slices.Clone(c.l)
		if s, e := Print(c.l); s != c.want || e != api.OK || !slices.Equal(before, c.l) {
			t.Errorf("%q, not %q: %v", s, c.want, e)
		}
	}
}

// refused checks that a list is none of a pool's.
func refused(t *testing.T, l []int64, want api.Errno) {
	t.Helper()
	if s, e := Print(l); s != "" || e != want {
		t.Errorf("Print of %d: %q %v, not %v", len(l), s, e, want)
	}
	if p, e := New(l); p != nil || e != want {
		t.Errorf("New of %d: %v, not %v", len(l), e, want)
	}
}

func TestPrintRefuses(t *testing.T) {
	refused(t, from(1, 257), api.ErrFull)
	refused(t, make([]int64, 257), api.ErrFull)
	refused(t, from(0, 256), api.ErrAddr)
	for _, n := range noAddrs() {
		refused(t, []int64{n}, api.ErrAddr)
		refused(t, []int64{1, n}, api.ErrAddr)
		refused(t, []int64{1, 1, n}, api.ErrAddr)
		refused(t, []int64{n, n}, api.ErrAddr)
		refused(t, append(from(1, 256), n), api.ErrFull)
	}
	refused(t, []int64{1, 1}, api.ErrTwice)
	refused(t, []int64{1, 2, 3, 2}, api.ErrTwice)
	refused(t, append(from(1, 255), 255), api.ErrTwice)
}

// P16.7

// addrs draws some addresses, none twice, some of them one above the other.
func (d *draws) addrs(most int) []int64 {
	var l []int64
	for range 1 + d.next(most) {
		n := int64(1 + d.next(5*most))
		if len(l) > 0 && d.next(2) == 0 {
			n = l[len(l)-1] + 1
		}
		if !slices.Contains(l, n) {
			l = append(l, n)
		}
	}
	return l
}

func TestParseOfPrintIsAsItWas(t *testing.T) {
	var d draws = 1
	for range 2000 {
		l := d.addrs(256)
		s, e := Print(l)
		if e != api.OK {
			t.Fatal(e)
		}
		if got, e, at := Parse(s); !slices.Equal(got, l) || e != api.OK || at != 0 {
			t.Fatal(s, got, e, at)
		}
	}
}

// P1

func TestParseOfAnyBytes(t *testing.T) {
	var d draws = 2
	for range 100000 {
		b := make([]byte, d.next(24))
		for i := range b {
			b[i] = "0123456789..,,-- \t\x00\xff"[d.next(20)]
		}
		got, e, at := Parse(string(b))
		if (e == api.OK) == (len(got) == 0) || e == api.OK && at != 0 {
			t.Fatalf("%q: %v %v %v", b, got, e, at)
		}
		if e != api.OK {
			continue
		}
		if s, e := Print(got); e != api.OK || s == "" {
			t.Fatal(got, e)
		}
	}
}
