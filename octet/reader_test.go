package octet

import (
	"bytes"
	"math"
	"testing"

	"tether/api"
)

// P1.2

func TestReaderReadsOneBehindTheOther(t *testing.T) {
	r := NewReader([]byte{1, 2, 3, 4, 5, 6, 7})
	if r.Left() != 7 || r.Err() != api.OK {
		t.Error("new:", r.Left(), r.Err())
	}
	if n := r.Num(2); n != 0x0102 || r.Left() != 5 {
		t.Errorf("Num: %x, left %d", n, r.Left())
	}
	if b := r.Take(0); len(b) != 0 || r.Left() != 5 {
		t.Error("Take of none:", b, r.Left())
	}
	if b := r.Take(3); !bytes.Equal(b, []byte{3, 4, 5}) || r.Left() != 2 {
		t.Error("Take:", b, r.Left())
	}
	if b := r.Rest(); !bytes.Equal(b, []byte{6, 7}) || r.Left() != 0 {
		t.Error("Rest:", b, r.Left())
	}
	if b := r.Rest(); len(b) != 0 || r.Err() != api.OK {
		t.Error("Rest of none:", b, r.Err())
	}
	if b := r.Take(0); len(b) != 0 || r.Err() != api.OK {
		t.Error("Take of none at the end:", b, r.Err())
	}
	if n := r.Num(1); n != 0 || r.Err() != api.ErrShort {
		t.Error("Num at the end:", n, r.Err())
	}
}

func TestReaderReadsNumbersOfAllSizes(t *testing.T) {
	b := []byte{0xff, 0xee, 0xdd, 0xcc, 0xbb, 0xaa, 0x99, 0x88}
	for size := 1; size <= 8; size++ {
		r := NewReader(b)
		want := uint64(0xffeeddccbbaa9988) >> (8 * (8 - size))
		if n := r.Num(size); n != want || r.Left() != 8-size || r.Err() != api.OK {
			t.Errorf("size %d: %x, left %d, %d", size, n, r.Left(), r.Err())
		}
	}
}

// ended asks all of a reader that has the error e already.
func ended(t *testing.T, r *Reader, e api.Errno) {
	t.Helper()
	for range 2 {
		if r.Err() != e || r.Left() != 0 {
			t.Error("behind an error:", r.Err(), r.Left())
		}
		if n := r.Num(1); n != 0 {
			t.Error("Num behind an error:", n)
		}
		if b := r.Take(0); len(b) != 0 {
			t.Error("Take behind an error:", b)
		}
		if b := r.Take(1); len(b) != 0 {
			t.Error("Take behind an error:", b)
		}
		if b := r.Rest(); len(b) != 0 {
			t.Error("Rest behind an error:", b)
		}
		if r.Num(0) != 0 || len(r.Take(-1)) != 0 || r.Num(8) != 0 || len(r.Take(99)) != 0 {
			t.Error("an answer behind an error")
		}
	}
	if r.Err() != e {
		t.Error("the first error is lost:", r.Err())
	}
}

func TestReaderKeepsItsFirstError(t *testing.T) {
	four := []byte{1, 2, 3, 4}
	for _, size := range wrongSizes() {
		r := NewReader(four)
		if n := r.Num(size); n != 0 {
			t.Errorf("Num(%d): %d", size, n)
		}
		ended(t, r, api.ErrArg)
		r = NewReader(nil)
		r.Num(size)
		ended(t, r, api.ErrArg)
	}
	for size := 5; size <= 8; size++ {
		r := NewReader(four)
		if n := r.Num(size); n != 0 {
			t.Errorf("Num(%d): %d", size, n)
		}
		ended(t, r, api.ErrShort)
	}
	for _, n := range []int{-1, -5, math.MinInt} {
		r := NewReader(four)
		if b := r.Take(n); len(b) != 0 {
			t.Errorf("Take(%d): %x", n, b)
		}
		ended(t, r, api.ErrArg)
	}
	for _, n := range []int{5, 6, math.MaxInt} {
		r := NewReader(four)
		if b := r.Take(n); len(b) != 0 {
			t.Errorf("Take(%d): %x", n, b)
		}
		ended(t, r, api.ErrShort)
	}
}

func TestReaderReadsUpToTheLastByte(t *testing.T) {
	r := NewReader([]byte{1, 2, 3, 4})
	if b := r.Take(4); !bytes.Equal(b, []byte{1, 2, 3, 4}) || r.Err() != api.OK {
		t.Error(b, r.Err())
	}
	r = NewReader([]byte{1, 2, 3, 4})
	if n := r.Num(4); n != 0x01020304 || r.Err() != api.OK {
		t.Error(n, r.Err())
	}
}

func TestReaderOfNil(t *testing.T) {
	ended(t, nil, api.ErrNil)
	r := NewReader(nil)
	if r == nil || r.Err() != api.OK || r.Left() != 0 || len(r.Rest()) != 0 {
		t.Error("a reader of no bytes is no nil reader")
	}
}

func TestReaderSharesNothing(t *testing.T) {
	b := []byte{1, 2, 3, 4, 5, 6}
	r := NewReader(b)
	b[0], b[5] = 90, 95
	first := r.Take(2)
	first[0] = 77
	_ = append(first, 78, 79, 80)
	if !bytes.Equal(b, []byte{90, 2, 3, 4, 5, 95}) {
		t.Error("what was handed in is changed:", b)
	}
	rest := r.Rest()
	if !bytes.Equal(rest, []byte{3, 4, 5, 6}) {
		t.Error("what was handed in, or answered, is seen later:", rest)
	}
	if first[0] != 77 || first[1] != 2 {
		t.Error(first)
	}
}

// P1.7

func TestReaderTellsAllBytesInOrder(t *testing.T) {
	var d draws = 2
	for range 300 {
		b := d.bytes(d.next(60))
		r := NewReader(b)
		var told []byte
		for r.Left() > 0 {
			if left := r.Left(); left != len(b)-len(told) {
				t.Fatal("left", left, "of", len(b), "behind", len(told))
			}
			switch n := min(1+d.next(9), r.Left()); {
			case d.next(10) == 0:
				told = append(told, r.Rest()...)
			case n <= 8 && d.next(2) == 0:
				told, _ = Put(told, r.Num(n), n)
			default:
				told = append(told, r.Take(n)...)
			}
		}
		if !bytes.Equal(told, b) || r.Err() != api.OK {
			t.Fatalf("%x, told %x, %d", b, told, r.Err())
		}
	}
}

// P1

func TestAReaderThatNewReaderDidNotMakeHasNoBytes(t *testing.T) {
	var r Reader
	if r.Left() != 0 || r.Err() != api.OK || len(r.Rest()) != 0 || r.Num(1) != 0 || r.Err() != api.ErrShort {
		t.Error("it tells bytes:", r.Left(), r.Err())
	}
}
