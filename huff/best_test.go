package huff

import (
	"math"
	"slices"
	"testing"

	"tether/api"
)

// cheapest is the least cost of codes of at most most bits, length by length: how many symbols, the most frequent ones first, have codes of it.
func cheapest(freq []int, most int) int {
	var left []int
	for _, n := range freq {
		if n > 0 {
			left = append(left, n)
		}
	}
	slices.SortFunc(left, func(a, b int) int { return b - a })
	rest := make([]int, len(left)+1) // what the symbols from one on weigh
	for i := len(left) - 1; i >= 0; i-- {
		rest[i] = rest[i+1] + left[i]
	}
	type place struct{ length, done, rows int }
	met := map[place]int{}
	var walk func(p place) int
	walk = func(p place) int {
		switch {
		case p.done == len(left):
			return 0
		case p.length == most || p.rows == 0:
			return math.MaxInt / 2
		}
		if n, ok := met[p]; ok {
			return n
		}
		least := math.MaxInt / 2
		rows := min(2*p.rows, 2*len(left))
		for codes := 0; codes <= min(rows, len(left)-p.done); codes++ {
			least = min(least, rest[p.done]+walk(place{p.length + 1, p.done + codes, rows - codes}))
		}
		met[p] = least
		return least
	}
	return walk(place{0, 0, 1})
}

// judge checks lengths of freq against what the document asks.
func judge(t *testing.T, freq []int, most int, least int) {
	t.Helper()
	l, e := Lengths(freq, most)
	if e != api.OK || len(l) != len(freq) {
		t.Fatal(freq, most, l, e)
	}
	there := 0
	for i, n := range l {
		if (n == 0) != (freq[i] == 0) || n < 0 || n > most {
			t.Fatal(freq, most, l)
		}
		if n > 0 {
			there++
		}
	}
	whole, e := Right(l)
	if e != api.OK || whole != (there > 1) {
		t.Fatal(freq, most, l, whole, e)
	}
	if cost, e := Cost(freq, l); e != api.OK || cost != least {
		t.Fatal(freq, most, l, cost, "instead of", least, e)
	}
}

// P19.1

func TestLengthsOfTheExample(t *testing.T) {
	l, e := Lengths([]int{5, 1, 1, 1}, 15)
	if e != api.OK || l[0] != 1 {
		t.Error(l, e)
	}
	slices.Sort(l)
	if !slices.Equal(l, []int{1, 2, 3, 3}) {
		t.Error(l)
	}
	if l, e := Lengths([]int{5, 1, 1, 1}, 2); !slices.Equal(l, []int{2, 2, 2, 2}) || e != api.OK {
		t.Error(l, e)
	}
}

func TestLengthsOfFewSymbols(t *testing.T) {
	for _, most := range []int{1, 2, 15} {
		for _, n := range []int{0, 1, 2, 320} {
			if l, e := Lengths(many(0, n), most); !slices.Equal(l, many(0, n)) || e != api.OK {
				t.Error(n, l, e)
			}
		}
		if l, e := Lengths(nil, most); len(l) != 0 || e != api.OK {
			t.Error(l, e)
		}
		if l, e := Lengths([]int{0, 1 << 20, 0}, most); !slices.Equal(l, []int{0, 1, 0}) || e != api.OK {
			t.Error(l, e)
		}
		if l, e := Lengths([]int{1, 0, 1 << 20}, most); !slices.Equal(l, []int{1, 0, 1}) || e != api.OK {
			t.Error(l, e)
		}
	}
}

func TestLengthsRefuses(t *testing.T) {
	for i, c := range []struct {
		freq []int
		most int
		e    api.Errno
	}{
		{nil, 0, api.ErrArg},
		{nil, -1, api.ErrArg},
		{nil, 16, api.ErrArg},
		{nil, math.MinInt, api.ErrArg},
		{nil, math.MaxInt, api.ErrArg},
		{many(0, 321), 16, api.ErrArg},
		{many(0, 321), 15, api.ErrFull},
		{many(-1, 321), 1, api.ErrFull},
		{[]int{-1}, 15, api.ErrArg},
		{[]int{1, 1, 1, -1}, 1, api.ErrArg},
		{[]int{1<<20 + 1, 1, 1}, 1, api.ErrArg},
		{[]int{math.MaxInt}, 15, api.ErrArg},
		{[]int{math.MinInt}, 15, api.ErrArg},
		{many(1, 3), 1, api.ErrSize},
		{many(1, 5), 2, api.ErrSize},
		{many(1, 257), 8, api.ErrSize},
	} {
		if l, e := Lengths(c.freq, c.most); l != nil || e != c.e {
			t.Error(i, l, e)
		}
	}
}

func TestLengthsAtTheirBound(t *testing.T) {
	for most := 1; most <= 8; most++ {
		freq := many(0, 320)
		for i := range 1 << most {
			freq[319-i] = 1 + i*i // all must have most bits, whatever they weigh
		}
		l, e := Lengths(freq, most)
		if e != api.OK {
			t.Fatal(most, e)
		}
		for i, n := range l {
			if freq[i] > 0 && n != most || freq[i] == 0 && n != 0 {
				t.Fatal(most, i, n)
			}
		}
	}
	judge(t, many(1<<20, 320), 15, (192*8+128*9)<<20)
	judge(t, many(1<<20, 320), 9, (192*8+128*9)<<20)
}

// P19.5

func TestNoLengthsCostLess(t *testing.T) {
	var d draws = 5
	for range 1500 {
		freq := d.freqs(d.next(24))
		most := 1 + d.next(15)
		if least := cheapest(freq, most); least < math.MaxInt/2 {
			judge(t, freq, most, least)
		} else if l, e := Lengths(freq, most); l != nil || e != api.ErrSize {
			t.Fatal(freq, most, l, e)
		}
	}
}

func TestNoLengthsOfFiveSymbolsCostLess(t *testing.T) {
	weights := []int{0, 1, 2, 3, 10, 100}
	for n := range 6 * 6 * 6 * 6 * 6 {
		freq := []int{weights[n%6], weights[n/6%6], weights[n/36%6], weights[n/216%6], weights[n/1296]}
		for most := 3; most <= 4; most++ {
			judge(t, freq, most, cheapest(freq, most))
		}
	}
}

func TestNoLengthsCostLessWhereTheBoundBites(t *testing.T) {
	freq := []int{1, 1}
	for len(freq) < 28 {
		freq = append(freq, freq[len(freq)-1]+freq[len(freq)-2]) // a code without a bound has one bit more for each
	}
	for n := 2; n <= len(freq); n++ {
		for most := 5; most <= 15; most++ {
			judge(t, freq[:n], most, cheapest(freq[:n], most))
		}
	}
}
