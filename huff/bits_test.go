package huff

import (
	"bytes"
	"math"
	"slices"
	"testing"

	"tether/api"
)

// table answers the table of lengths that make a code.
func table(t *testing.T, lengths ...int) *Table {
	t.Helper()
	out, e := New(lengths)
	if e != api.OK {
		t.Fatal(lengths, e)
	}
	return out
}

// full answers a writer with n bits less than it may hold.
func full(t *testing.T, n int) *Writer {
	t.Helper()
	w := NewWriter()
	for w.Len() < maxWritten-32 {
		w.Bits(math.MaxUint32, 32)
	}
	if e := w.Bits(0, 32-n); e != api.OK || w.Len() != 1<<21-n {
		t.Fatal(w.Len(), e)
	}
	return w
}

// P19.3

func TestWriterWritesTheLowestBitFirst(t *testing.T) {
	w := NewWriter()
	if w.Len() != 0 || len(w.Bytes()) != 0 {
		t.Error(w.Len(), w.Bytes())
	}
	for i, c := range []struct {
		v    uint32
		n    int
		want []byte
	}{
		{1, 1, []byte{0x01}},
		{2, 2, []byte{0x05}},
		{0, 0, []byte{0x05}},
		{0, 4, []byte{0x05}},
		{3, 2, []byte{0x85, 0x01}},
		{0x7e, 7, []byte{0x85, 0xfd}},
		{0xfedcba98, 32, []byte{0x85, 0xfd, 0x98, 0xba, 0xdc, 0xfe}},
		{1, 3, []byte{0x85, 0xfd, 0x98, 0xba, 0xdc, 0xfe, 0x01}},
		{math.MaxUint32, 32, []byte{0x85, 0xfd, 0x98, 0xba, 0xdc, 0xfe, 0xf9, 0xff, 0xff, 0xff, 0x07}},
	} {
		before := w.Len()
		if e := w.Bits(c.v, c.n); e != api.OK || w.Len() != before+c.n || !bytes.Equal(w.Bytes(), c.want) {
			t.Errorf("%d: %d %d %x", i, e, w.Len(), w.Bytes())
		}
	}
}

func TestWriterRefusesNumbersThatCanNotBe(t *testing.T) {
	w := NewWriter()
	w.Bits(1, 3)
	for _, c := range []struct {
		v uint32
		n int
	}{
		{0, -1}, {0, 33}, {0, math.MinInt}, {0, math.MaxInt}, {1, 0}, {2, 1}, {4, 2}, {1 << 31, 31}, {math.MaxUint32, 31}, {256, 8},
	} {
		if e := w.Bits(c.v, c.n); e != api.ErrArg {
			t.Error(c, e)
		}
	}
	if w.Len() != 3 || !bytes.Equal(w.Bytes(), []byte{1}) {
		t.Error(w.Len(), w.Bytes())
	}
}

func TestPutWritesTheHighestBitFirst(t *testing.T) {
	w := NewWriter()
	four := table(t, 2, 1, 3, 3, 0)
	for _, symbol := range []int{0, 1, 2, 3} { // 10 0 110 111
		if e := w.Put(four, symbol); e != api.OK {
			t.Error(symbol, e)
		}
	}
	if w.Len() != 9 || !bytes.Equal(w.Bytes(), []byte{0xd9, 0x01}) {
		t.Errorf("%d %x", w.Len(), w.Bytes())
	}
	for _, symbol := range []int{4, 5, -1, math.MinInt, math.MaxInt} {
		if e := w.Put(four, symbol); e != api.ErrNone {
			t.Error(symbol, e)
		}
	}
	if e := w.Put(nil, 0); e != api.ErrNil {
		t.Error(e)
	}
	if w.Len() != 9 {
		t.Error(w.Len())
	}
	w = NewWriter()
	w.Put(table(t, halves(15)...), 14)
	if w.Len() != 15 || !bytes.Equal(w.Bytes(), []byte{0xff, 0x3f}) {
		t.Errorf("%d %x", w.Len(), w.Bytes())
	}
}

func TestByteFillsWithBits0(t *testing.T) {
	w := NewWriter()
	w.Byte()
	if w.Len() != 0 {
		t.Error(w.Len())
	}
	for n := 1; n <= 8; n++ {
		w.Bits(1<<n-1, n)
		w.Byte()
		w.Byte()
		if w.Len() != 8*n || w.Bytes()[n-1] != 1<<n-1 {
			t.Error(n, w.Len(), w.Bytes())
		}
	}
	w.Bits(3, 2)
	if w.Len() != 66 || w.Bytes()[8] != 3 {
		t.Error(w.Len(), w.Bytes())
	}
}

func TestWriterIsFull(t *testing.T) {
	w := full(t, 2)
	four := table(t, 2, 1, 3, 3, 0)
	for _, n := range []int{3, 32} {
		if e := w.Bits(0, n); e != api.ErrFull {
			t.Error(n, e)
		}
	}
	if e := w.Bits(8, 3); e != api.ErrArg {
		t.Error(e)
	}
	if e := w.Put(four, 2); e != api.ErrFull {
		t.Error(e)
	}
	if e := w.Put(four, 4); e != api.ErrNone {
		t.Error(e)
	}
	if e := w.Put(four, 1); e != api.OK || w.Len() != 1<<21-1 {
		t.Error(e, w.Len())
	}
	w.Byte()
	if w.Len() != 1<<21 || len(w.Bytes()) != 1<<18 {
		t.Error(w.Len(), len(w.Bytes()))
	}
	if w.Bits(0, 0) != api.OK || w.Bits(0, 1) != api.ErrFull || w.Put(four, 1) != api.ErrFull {
		t.Error("at the bound")
	}
	if e := full(t, 2).Put(four, 0); e != api.OK {
		t.Error(e)
	}
	if e := full(t, 2).Bits(3, 2); e != api.OK {
		t.Error(e)
	}
}

func TestNilWriter(t *testing.T) {
	var w *Writer
	w.Byte()
	if w.Bits(0, 0) != api.ErrNil || w.Bits(9, -1) != api.ErrNil || w.Put(nil, 0) != api.ErrNil || w.Put(table(t, 1), 0) != api.ErrNil || w.Put(table(t, 1), 7) != api.ErrNil {
		t.Error("ErrNil")
	}
	if w.Len() != 0 || w.Bytes() != nil {
		t.Error(w.Len(), w.Bytes())
	}
}

func TestWritersAnswersAreNewMemory(t *testing.T) {
	w := NewWriter()
	w.Bits(0x55, 8)
	b := w.Bytes()
	b[0] = 0
	_ = append(b[:0], 1, 2, 3)
	w.Bits(1, 1)
	if got := w.Bytes(); !bytes.Equal(got, []byte{0x55, 1}) {
		t.Error(got)
	}
}

// P19.4

func TestReaderReadsTheLowestBitFirst(t *testing.T) {
	r := NewReader([]byte{0x85, 0xfd, 0x98, 0xba, 0xdc, 0xfe, 0xf9, 0xff, 0xff, 0xff, 0x07})
	left := 88
	for i, c := range []struct {
		n    int
		want uint32
	}{
		{1, 1}, {2, 2}, {0, 0}, {4, 0}, {2, 3}, {7, 0x7e}, {32, 0xfedcba98}, {3, 1}, {32, math.MaxUint32}, {5, 0}, {0, 0},
	} {
		v, e := r.Bits(c.n)
		if left -= c.n; v != c.want || e != api.OK || r.Left() != left {
			t.Errorf("%d: %x %d %d", i, v, e, r.Left())
		}
	}
	if v, e := r.Bits(1); v != 0 || e != api.ErrShort {
		t.Error(v, e)
	}
}

func TestReaderRefuses(t *testing.T) {
	r := NewReader([]byte{0xff, 0xff})
	for _, n := range []int{-1, 33, math.MinInt, math.MaxInt} {
		if v, e := r.Bits(n); v != 0 || e != api.ErrArg {
			t.Error(n, v, e)
		}
	}
	for _, n := range []int{17, 32} {
		if v, e := r.Bits(n); v != 0 || e != api.ErrShort || r.Left() != 16 {
			t.Error(n, v, e, r.Left())
		}
	}
	if v, e := r.Bits(16); v != 0xffff || e != api.OK || r.Left() != 0 {
		t.Error(v, e)
	}
	if v, e := r.Bits(33); v != 0 || e != api.ErrArg {
		t.Error(v, e)
	}
	if v, e := NewReader(nil).Bits(0); v != 0 || e != api.OK {
		t.Error(v, e)
	}
}

// get is what Get reads of the bits of b's bytes behind the first skip ones.
func get(t *testing.T, table *Table, skip int, b ...byte) (int, api.Errno, int) {
	t.Helper()
	r := NewReader(b)
	r.Bits(skip)
	before := r.Left()
	symbol, e := r.Get(table)
	return symbol, e, before - r.Left()
}

func TestGet(t *testing.T) {
	four, two, alone, none, sparse := table(t, 2, 1, 3, 3), table(t, 0, 1), table(t, 0, 0, 2), table(t, 0, 0), table(t, 15, 3, 15)
	for i, c := range []struct {
		table  *Table
		skip   int
		b      []byte
		symbol int
		e      api.Errno
		read   int
	}{
		{four, 0, []byte{0x00}, 1, api.OK, 1},
		{four, 0, []byte{0x01}, 0, api.OK, 2},
		{four, 0, []byte{0x03}, 2, api.OK, 3},
		{four, 0, []byte{0x07}, 3, api.OK, 3},
		{four, 6, []byte{0xc0, 0x01}, 3, api.OK, 3},
		{four, 6, []byte{0xc0}, 0, api.ErrShort, 0},
		{four, 6, []byte{0x40}, 0, api.OK, 2},
		{four, 7, []byte{0x80}, 0, api.ErrShort, 0},
		{four, 8, []byte{0x00}, 0, api.ErrShort, 0},
		{four, 0, nil, 0, api.ErrShort, 0},
		{two, 7, []byte{0x7f}, 1, api.OK, 1},
		{two, 7, []byte{0x80}, 0, api.ErrHuff, 0},
		{two, 8, []byte{0x80}, 0, api.ErrShort, 0},
		{alone, 6, []byte{0x3f}, 2, api.OK, 2},
		{alone, 7, []byte{0x7f}, 0, api.ErrShort, 0},
		{alone, 7, []byte{0x80}, 0, api.ErrHuff, 0},
		{alone, 6, []byte{0x80}, 0, api.ErrHuff, 0},
		{none, 0, []byte{0x00}, 0, api.ErrHuff, 0},
		{none, 8, []byte{0x00}, 0, api.ErrHuff, 0},
		{none, 0, nil, 0, api.ErrHuff, 0},
		{sparse, 0, []byte{0x00}, 1, api.OK, 3},
		{sparse, 0, []byte{0x04, 0x00}, 0, api.OK, 15},
		{sparse, 0, []byte{0x04, 0x40}, 2, api.OK, 15},
		{sparse, 0, []byte{0x04}, 0, api.ErrShort, 0},
		{sparse, 2, []byte{0x10, 0x00}, 0, api.ErrShort, 0},
		{sparse, 0, []byte{0x04, 0x20}, 0, api.ErrHuff, 0},
		{sparse, 2, []byte{0x10, 0x80}, 0, api.ErrHuff, 0},
		{sparse, 0, []byte{0x0c}, 0, api.ErrHuff, 0},
		{sparse, 7, []byte{0x80}, 0, api.ErrHuff, 0},
		{nil, 0, []byte{0x00}, 0, api.ErrNil, 0},
		{nil, 0, nil, 0, api.ErrNil, 0},
	} {
		symbol, e, read := get(t, c.table, c.skip, c.b...)
		if symbol != c.symbol || e != c.e || read != c.read {
			t.Error(i, symbol, e, read)
		}
	}
}

// spelling is how Get answers by the codes alone: of bits as they stand.
func spelling(codes []Code, bits string) (int, api.Errno, int) {
	begins := false
	for symbol, c := range codes {
		s := c.spelt()
		switch {
		case c.Len == 0:
		case len(s) <= len(bits) && bits[:len(s)] == s:
			return symbol, api.OK, c.Len
		case len(bits) < len(s) && s[:len(bits)] == bits:
			begins = true
		}
	}
	if begins {
		return 0, api.ErrShort, 0
	}
	return 0, api.ErrHuff, 0
}

func TestGetIsWhatTheCodesSay(t *testing.T) {
	var d draws = 4
	for range 400 {
		lengths := d.lengths(1 + d.next(40))
		codes, _ := Codes(lengths)
		tab := table(t, lengths...)
		b := []byte{byte(d.next(256)), byte(d.next(256)), byte(d.next(256))}
		skip := d.next(25)
		var bits []byte
		for i := skip; i < 24; i++ {
			bits = append(bits, '0'+b[i/8]>>(i%8)&1)
		}
		symbol, e, read := get(t, tab, skip, b...)
		wantSymbol, wantE, wantRead := spelling(codes, string(bits))
		if symbol != wantSymbol || e != wantE || read != wantRead {
			t.Fatal(lengths, string(bits), symbol, e, read, "instead of", wantSymbol, wantE, wantRead)
		}
	}
}

func TestByteGoesOnToTheNextOne(t *testing.T) {
	r := NewReader([]byte{0xff, 0x02, 0x03})
	r.Byte()
	if r.Left() != 24 {
		t.Error(r.Left())
	}
	r.Bits(1)
	r.Byte()
	r.Byte()
	if v, e := r.Bits(8); v != 2 || e != api.OK {
		t.Error(v, e)
	}
	r.Bits(7)
	r.Byte()
	if r.Left() != 0 {
		t.Error(r.Left())
	}
	r.Byte()
	if r.Left() != 0 {
		t.Error(r.Left())
	}
}

func TestReaderHoldsACopyOfTheFirstBytes(t *testing.T) {
	b := bytes.Repeat([]byte{0xa5}, 1<<18+1)
	for _, n := range []int{0, 1, 1<<18 - 1, 1 << 18, 1<<18 + 1} {
		if left := NewReader(b[:n]).Left(); left != 8*min(n, 1<<18) {
			t.Error(n, left)
		}
	}
	r := NewReader(b)
	b[0] = 0
	if v, e := r.Bits(8); v != 0xa5 || e != api.OK {
		t.Error(v, e)
	}
}

func TestNilReader(t *testing.T) {
	var r *Reader
	r.Byte()
	if v, e := r.Bits(0); v != 0 || e != api.ErrNil {
		t.Error(v, e)
	}
	if v, e := r.Bits(-1); v != 0 || e != api.ErrNil {
		t.Error(v, e)
	}
	for _, tab := range []*Table{nil, table(t, 1, 1)} {
		if v, e := r.Get(tab); v != 0 || e != api.ErrNil {
			t.Error(v, e)
		}
	}
	if r.Left() != 0 {
		t.Error(r.Left())
	}
}

// P1

func TestObjectsThatNoCallMade(t *testing.T) {
	w, r, tab := &Writer{}, &Reader{}, &Table{}
	if w.Put(tab, 0) != api.ErrNone || w.Bits(1, 1) != api.OK || w.Len() != 1 {
		t.Error("a writer")
	}
	if v, e := r.Get(tab); v != 0 || e != api.ErrHuff {
		t.Error(v, e)
	}
	if v, e := r.Bits(1); v != 0 || e != api.ErrShort {
		t.Error(v, e)
	}
}

// P19.7

func TestWhatIsPutIsReadAgain(t *testing.T) {
	type item struct {
		table  *Table // nil: a number
		symbol int
		v      uint32
		n      int
	}
	var d draws = 7
	for range 100 {
		var tables []*Table
		var there [][]int
		for len(tables) < 3 {
			lengths := d.lengths(1 + d.next(320))
			var symbols []int
			for i, n := range lengths {
				if n > 0 {
					symbols = append(symbols, i)
				}
			}
			tables, there = append(tables, table(t, lengths...)), append(there, symbols)
		}
		w := NewWriter()
		var items []item
		for range d.next(300) {
			k := d.next(4)
			one := item{n: d.next(33)}
			switch {
			case k == 3:
				one.v = uint32(uint64(d.next(1<<16))<<16|uint64(d.next(1<<16))) & uint32(1<<one.n-1)
				w.Bits(one.v, one.n)
			case len(there[k]) == 0:
				continue
			default:
				one.table, one.symbol = tables[k], there[k][d.next(len(there[k]))]
				w.Put(one.table, one.symbol)
			}
			items = append(items, one)
		}
		r := NewReader(w.Bytes())
		for i, one := range items {
			if one.table == nil {
				if v, e := r.Bits(one.n); v != one.v || e != api.OK {
					t.Fatal(i, v, e)
				}
			} else if symbol, e := r.Get(one.table); symbol != one.symbol || e != api.OK {
				t.Fatal(i, symbol, e)
			}
		}
		if r.Left() >= 8 || r.Left() != len(w.Bytes())*8-w.Len() {
			t.Fatal(r.Left())
		}
	}
}

// P19.8

func TestOfAWholeCodeGetNeverAnswersErrHuff(t *testing.T) {
	var d draws = 8
	for range 200 {
		l, e := Lengths(slices.Concat(d.freqs(d.next(319)), []int{1, 1}[:1+d.next(2)]), maxLength)
		if whole, _ := Right(l); e != api.OK || !whole {
			continue
		}
		tab := table(t, l...)
		b := make([]byte, 40)
		for i := range b {
			b[i] = byte(d.next(256))
		}
		r := NewReader(b)
		for e == api.OK {
			_, e = r.Get(tab)
		}
		if e != api.ErrShort || r.Left() >= 15 {
			t.Fatal(l, e, r.Left())
		}
	}
}
