package huff

import (
	"math"
	"slices"
	"strings"
	"testing"

	"tether/api"
)

// draws is a chain of numbers that are the same at each run.
type draws uint64

func (d *draws) next(below int) int {
	*d = *d*6364136223846793005 + 1442695040888963407
	return int(uint64(*d)>>33) % below
}

// freqs answers how often n symbols are there, some of them never, few or many of them often.
func (d *draws) freqs(n int) []int {
	out := make([]int, n)
	most := 1 << d.next(21)
	for i := range out {
		if d.next(4) > 0 {
			out[i] = d.next(most + 1)
		}
	}
	return out
}

// lengths answers lengths that make a code of n symbols, whole or not.
func (d *draws) lengths(n int) []int {
	l, e := Lengths(d.freqs(n), maxLength)
	if e != api.OK {
		return nil
	}
	for i := range l {
		if d.next(8) == 0 {
			l[i] = 0
		}
	}
	return l
}

// spelt is a code as it is written, the first bit first.
func (c Code) spelt() string {
	var out strings.Builder
	for i := c.Len - 1; i >= 0; i-- {
		out.WriteByte('0' + byte(c.Bits>>i&1))
	}
	return out.String()
}

// many answers n times the number v.
func many(v, n int) []int {
	return slices.Repeat([]int{v}, n)
}

// halves are lengths of which each takes half of what is left: 1, 2, 3 and so on, the last one twice.
func halves(last int) []int {
	var out []int
	for n := 1; n <= last; n++ {
		out = append(out, n)
	}
	return append(out, last)
}

// P19.2

func TestCodesOfTheExample(t *testing.T) {
	l, e := Codes([]int{2, 1, 3, 3})
	if want := []Code{{2, 2}, {0, 1}, {6, 3}, {7, 3}}; !slices.Equal(l, want) || e != api.OK {
		t.Error(l, e)
	}
}

func TestCodesAreThoseOfTheRfc(t *testing.T) {
	l, e := Codes([]int{3, 3, 3, 3, 3, 2, 4, 4})
	var got []string
	for _, c := range l {
		got = append(got, c.spelt())
	}
	if want := []string{"010", "011", "100", "101", "110", "00", "1110", "1111"}; !slices.Equal(got, want) || e != api.OK {
		t.Error(got, e)
	}
	l, e = Codes([]int{0, 3, 0, 2, 15, 3})
	if want := []Code{{}, {2, 3}, {}, {0, 2}, {4 << 12, 15}, {3, 3}}; !slices.Equal(l, want) || e != api.OK {
		t.Error(l, e)
	}
	for _, l := range [][]int{nil, {}, {0}, many(0, 320)} {
		if c, e := Codes(l); !slices.Equal(c, make([]Code, len(l))) || e != api.OK {
			t.Error(len(l), c, e)
		}
	}
}

func TestRight(t *testing.T) {
	for i, c := range []struct {
		lengths []int
		whole   bool
		e       api.Errno
	}{
		{[]int{1, 1, 1}, false, api.ErrHuff},
		{[]int{1}, false, api.OK},
		{[]int{1, 1}, true, api.OK},
		{[]int{0, 1, 0, 1, 0}, true, api.OK},
		{[]int{2, 1, 3, 3}, true, api.OK},
		{[]int{2, 1, 3}, false, api.OK},
		{[]int{2, 1, 3, 3, 15}, false, api.ErrHuff},
		{nil, false, api.OK},
		{[]int{0}, false, api.OK},
		{many(0, 320), false, api.OK},
		{[]int{15}, false, api.OK},
		{halves(15), true, api.OK},
		{halves(15)[1:], false, api.OK},
		{halves(15)[:15], false, api.OK},
		{append(halves(15), 15), false, api.ErrHuff},
		{many(8, 256), true, api.OK},
		{many(8, 257), false, api.ErrHuff},
		{many(9, 320), false, api.OK},
		{[]int{-1}, false, api.ErrHuff},
		{[]int{16}, false, api.ErrHuff},
		{[]int{math.MinInt}, false, api.ErrHuff},
		{[]int{math.MaxInt}, false, api.ErrHuff},
		{many(0, 321), false, api.ErrFull},
		{many(16, 321), false, api.ErrFull},
	} {
		whole, e := Right(c.lengths)
		if whole != c.whole || e != c.e {
			t.Error(i, whole, e)
		}
		codes, e := Codes(c.lengths)
		if e != c.e || (e != api.OK && codes != nil) {
			t.Error(i, "Codes", e)
		}
		table, e := New(c.lengths)
		if e != c.e || (table == nil) != (e != api.OK) {
			t.Error(i, "New", e)
		}
		n, e := Cost(make([]int, len(c.lengths)), c.lengths)
		if e != c.e || n != 0 {
			t.Error(i, "Cost", n, e)
		}
	}
}

func TestCost(t *testing.T) {
	for i, c := range []struct {
		freq, lengths []int
		cost          int
		e             api.Errno
	}{
		{[]int{5, 1, 1, 1}, []int{1, 2, 3, 3}, 13, api.OK},
		{[]int{5, 1, 1, 1}, []int{2, 2, 2, 2}, 16, api.OK},
		{nil, nil, 0, api.OK},
		{[]int{0, 7}, []int{0, 15}, 105, api.OK},
		{[]int{0, 7}, []int{9, 15}, 105, api.OK},
		{many(1<<20, 320), many(9, 320), 320 * 9 << 20, api.OK},
		{[]int{1, 2}, []int{0, 1}, 0, api.ErrNone},
		{[]int{2, 1}, []int{1, 0}, 0, api.ErrNone},
		{[]int{1}, []int{1, 1}, 0, api.ErrArg},
		{[]int{1, 1}, []int{1}, 0, api.ErrArg},
		{nil, many(0, 321), 0, api.ErrArg},
		{many(0, 321), many(0, 321), 0, api.ErrFull},
		{[]int{-1, 0}, []int{1, 16}, 0, api.ErrHuff},
		{[]int{-1, 0, 0}, []int{1, 1, 1}, 0, api.ErrHuff},
		{[]int{-1, 0}, []int{1, 1}, 0, api.ErrArg},
		{[]int{1, -1}, []int{0, 1}, 0, api.ErrArg},
		{[]int{0, 1<<20 + 1}, []int{1, 1}, 0, api.ErrArg},
		{[]int{math.MaxInt, 0}, []int{1, 1}, 0, api.ErrArg},
		{[]int{math.MinInt, 0}, []int{1, 1}, 0, api.ErrArg},
	} {
		if n, e := Cost(c.freq, c.lengths); n != c.cost || e != c.e {
			t.Error(i, n, e)
		}
	}
}

// P19.6

func TestNoCodeBeginsWithAnother(t *testing.T) {
	var d draws = 6
	for range 300 {
		lengths := d.lengths(1 + d.next(60))
		l, e := Codes(lengths)
		if e != api.OK || len(l) != len(lengths) {
			t.Fatal(lengths, e)
		}
		for i, a := range l {
			if a.Len != lengths[i] || a.Bits < 0 || a.Bits>>a.Len != 0 {
				t.Fatal(lengths, i, a)
			}
			for j, b := range l {
				if i != j && a.Len > 0 && b.Len > 0 && strings.HasPrefix(b.spelt(), a.spelt()) {
					t.Fatal(lengths, i, j, a, b)
				}
			}
		}
	}
}

func TestWhatIsHandedInStays(t *testing.T) {
	freq, lengths := []int{5, 1, 1, 1}, []int{1, 2, 3, 3}
	l, _ := Lengths(freq, 15)
	l[0] = 9
	table, _ := New(lengths)
	codes, _ := Codes(lengths)
	codes[0] = Code{}
	Cost(freq, lengths)
	if !slices.Equal(freq, []int{5, 1, 1, 1}) || !slices.Equal(lengths, []int{1, 2, 3, 3}) {
		t.Error(freq, lengths)
	}
	lengths[0] = 0
	w := NewWriter()
	if e := w.Put(table, 0); e != api.OK || w.Len() != 1 {
		t.Error("the table hangs on the list that was handed in", e)
	}
	if again, _ := Lengths(freq, 15); again[0] != 1 {
		t.Error(again)
	}
}
