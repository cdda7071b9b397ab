package octet

import (
	"bytes"
	"math"
	"testing"

	"tether/api"
)

// draws is a chain of numbers that are the same at each run.
type draws uint64

func (d *draws) next(below int) int {
	*d = *d*6364136223846793005 + 1442695040888963407
	return int(uint64(*d)>>33) % below
}

func (d *draws) bytes(n int) []byte {
	b := make([]byte, n)
	for i := range b {
		b[i] = byte(d.next(256))
	}
	return b
}

// wrongSizes are none that a number can have.
func wrongSizes() []int {
	return []int{0, 9, 10, 16, 64, -1, -8, math.MinInt, math.MaxInt}
}

// P1.1

func TestPutAndGetAsInTheExamples(t *testing.T) {
	if b, e := Put(nil, 0x1234, 2); !bytes.Equal(b, []byte{0x12, 0x34}) || e != api.OK {
		t.Error(b, e)
	}
	if b, e := Put(nil, 256, 1); b != nil || e != api.ErrArg {
		t.Error(b, e)
	}
	if n, e := Get([]byte{0x12, 0x34, 0x56}, 1, 2); n != 0x3456 || e != api.OK {
		t.Error(n, e)
	}
	if n, e := Get([]byte{0x12}, 0, 2); n != 0 || e != api.ErrShort {
		t.Error(n, e)
	}
}

func TestPutWritesTheHighestByteFirst(t *testing.T) {
	whole := []byte{0xf1, 0x23, 0x45, 0x67, 0x89, 0xab, 0xcd, 0xef}
	for size := 1; size <= 8; size++ {
		n := uint64(0xf123456789abcdef) >> (8 * (8 - size))
		want := append([]byte{7, 8}, whole[:size]...)
		if b, e := Put([]byte{7, 8}, n, size); !bytes.Equal(b, want) || e != api.OK {
			t.Errorf("size %d: %x %d", size, b, e)
		}
		if b, e := Put(nil, 0, size); !bytes.Equal(b, make([]byte, size)) || e != api.OK {
			t.Errorf("size %d: %x %d", size, b, e)
		}
	}
}

func TestPutRefusesANumberThatDoesNotGoIn(t *testing.T) {
	for size := 1; size <= 7; size++ {
		last := uint64(1)<<(8*size) - 1
		if b, e := Put(nil, last, size); len(b) != size || e != api.OK {
			t.Errorf("size %d: %x %d", size, b, e)
		}
		for _, n := range []uint64{last + 1, last << 1, 1 << 63, math.MaxUint64} {
			if b, e := Put([]byte{1}, n, size); b != nil || e != api.ErrArg {
				t.Errorf("size %d, %x: %x %d", size, n, b, e)
			}
		}
	}
	if b, e := Put(nil, math.MaxUint64, 8); !bytes.Equal(b, bytes.Repeat([]byte{255}, 8)) || e != api.OK {
		t.Error(b, e)
	}
}

func TestPutAndGetRefuseWrongSizes(t *testing.T) {
	for _, size := range wrongSizes() {
		if b, e := Put([]byte{1}, 0, size); b != nil || e != api.ErrArg {
			t.Errorf("Put, size %d: %x %d", size, b, e)
		}
		if n, e := Get(make([]byte, 20), 0, size); n != 0 || e != api.ErrArg {
			t.Errorf("Get, size %d: %d %d", size, n, e)
		}
		if n, e := Get(nil, 0, size); n != 0 || e != api.ErrArg {
			t.Errorf("Get of none, size %d: %d %d", size, n, e)
		}
	}
}

func TestPutAnswersNewMemory(t *testing.T) {
	room := []byte{1, 2, 3, 4, 5}
	b, _ := Put(room[:2], 0x0809, 2)
	if !bytes.Equal(room, []byte{1, 2, 3, 4, 5}) {
		t.Error("what was handed in is changed:", room)
	}
	b[0] = 99
	if room[0] != 1 {
		t.Error("the answer shares what was handed in")
	}
	c, _ := Put(room[:2], 0x0a0b, 2)
	if !bytes.Equal(b, []byte{99, 2, 8, 9}) || !bytes.Equal(c, []byte{1, 2, 10, 11}) {
		t.Error("two answers share memory:", b, c)
	}
}

func TestGetReadsAtEachPlace(t *testing.T) {
	b := []byte{0xf1, 0x23, 0x45, 0x67, 0x89, 0xab, 0xcd, 0xef, 0x10, 0x32}
	for size := 1; size <= 8; size++ {
		for at := 0; at <= len(b); at++ {
			n, e := Get(b, at, size)
			if at+size > len(b) {
				if n != 0 || e != api.ErrShort {
					t.Errorf("size %d at %d: %x %d", size, at, n, e)
				}
				continue
			}
			var want uint64
			for _, c := range b[at : at+size] {
				want = want*256 + uint64(c)
			}
			if n != want || e != api.OK {
				t.Errorf("size %d at %d: %x %d", size, at, n, e)
			}
		}
	}
}

func TestGetRefusesWrongPlaces(t *testing.T) {
	b := make([]byte, 9, 20)
	for _, at := range []int{-1, -9, 10, 11, math.MinInt, math.MaxInt} {
		for size := 1; size <= 8; size++ {
			if n, e := Get(b, at, size); n != 0 || e != api.ErrArg {
				t.Errorf("size %d at %d: %d %d", size, at, n, e)
			}
		}
	}
	if _, e := Get(nil, 0, 1); e != api.ErrShort {
		t.Error("none, at 0:", e)
	}
	if _, e := Get(nil, 1, 1); e != api.ErrArg {
		t.Error("none, at 1:", e)
	}
}

// P1.5

func TestGetTellsWhatPutWrote(t *testing.T) {
	var d draws = 1
	for range 2000 {
		size := 1 + d.next(8)
		ahead := d.bytes(d.next(5))
		written := d.bytes(size)
		var n uint64
		for _, c := range written {
			n = n<<8 | uint64(c)
		}
		b, e := Put(ahead, n, size)
		if e != api.OK || !bytes.Equal(b, append(bytes.Clone(ahead), written...)) {
			t.Fatalf("Put(%x, %x, %d): %x %d", ahead, n, size, b, e)
		}
		if got, e := Get(b, len(ahead), size); got != n || e != api.OK {
			t.Fatalf("Get(%x, %d, %d): %x %d", b, len(ahead), size, got, e)
		}
	}
}
