package fcs

import (
	"math"
	"testing"

	"tether/api"
)

// join16, join32: the joined sum, where it can be.
func join16(t *testing.T, a, b uint16, n int64) uint16 {
	t.Helper()
	got, e := Join16(a, b, n)
	if e != api.OK {
		t.Fatal("Join16:", a, b, n, e)
	}
	return got
}

func join32(t *testing.T, a, b uint32, n int64) uint32 {
	t.Helper()
	got, e := Join32(a, b, n)
	if e != api.OK {
		t.Fatal("Join32:", a, b, n, e)
	}
	return got
}

// P2.3

func TestJoinAsInTheExample(t *testing.T) {
	if n := join16(t, Sum16([]byte("1234")), Sum16([]byte("56789")), 5); n != 0x906e {
		t.Errorf("%x", n)
	}
	if n := join32(t, Sum32([]byte("1234")), Sum32([]byte("56789")), 5); n != 0xcbf43926 {
		t.Errorf("%x", n)
	}
}

func TestJoinIsTheSumOfBoth(t *testing.T) {
	var d draws = 5
	for range 2000 {
		b := d.bytes(d.next(90))
		at := d.next(len(b) + 1)
		n := int64(len(b) - at)
		if got := join16(t, Sum16(b[:at]), Sum16(b[at:]), n); got != Sum16(b) {
			t.Fatalf("16: %x at %d: %x", b, at, got)
		}
		if got := join32(t, Sum32(b[:at]), Sum32(b[at:]), n); got != Sum32(b) {
			t.Fatalf("32: %x at %d: %x", b, at, got)
		}
	}
}

func TestJoinIsTheRegisterBehindNoughts(t *testing.T) {
	var d draws = 6
	for n := range 300 {
		a, b, noughts := d.word(), d.word(), make([]byte, n)
		if got := join16(t, uint16(a), uint16(b), int64(n)); got != On16(uint16(a), noughts)^uint16(b) {
			t.Fatalf("16: %x %x %d: %x", a, b, n, got)
		}
		if got := join32(t, a, b, int64(n)); got != On32(a, noughts)^b {
			t.Fatalf("32: %x %x %d: %x", a, b, n, got)
		}
	}
}

func TestJoinWhereThereAreNoSuchBytes(t *testing.T) {
	if n := join16(t, 0x1234, 0x0f0f, 0); n != 0x1234^0x0f0f {
		t.Errorf("%x", n)
	}
	if n := join32(t, 0x12345678, 0x0f0f0f0f, 0); n != 0x12345678^0x0f0f0f0f {
		t.Errorf("%x", n)
	}
}

func TestJoinRefusesFewerThanNone(t *testing.T) {
	for _, n := range []int64{-1, -2, -65536, math.MinInt64} {
		if got, e := Join16(1, 2, n); got != 0 || e != api.ErrArg {
			t.Error("Join16", n, got, e)
		}
		if got, e := Join32(1, 2, n); got != 0 || e != api.ErrArg {
			t.Error("Join32", n, got, e)
		}
	}
}

// The registers come round behind 32767 and behind 2^32 - 1 noughts, so great numbers are told by small ones.
func TestJoinOfVeryMany(t *testing.T) {
	const round16, round32 = 1<<15 - 1, 1<<32 - 1
	for _, n := range []int64{0, 1, 7, 1000, 1<<20 + 3} {
		for _, times := range []int64{1, 2, 1 << 20, 1<<30 - 1} {
			if got, want := join16(t, 0xbeef, 3, n+times*round16), join16(t, 0xbeef, 3, n%round16); got != want {
				t.Errorf("16: %d: %x instead of %x", n+times*round16, got, want)
			}
			if got, want := join32(t, 0xdeadbeef, 3, n+times*round32), join32(t, 0xdeadbeef, 3, n); got != want {
				t.Errorf("32: %d: %x instead of %x", n+times*round32, got, want)
			}
		}
	}
	if join16(t, 0xbeef, 3, math.MaxInt64) != join16(t, 0xbeef, 3, 7) {
		t.Error("16: the greatest number")
	}
	if join32(t, 0xdeadbeef, 3, math.MaxInt64) != join32(t, 0xdeadbeef, 3, 1<<31-1) {
		t.Error("32: the greatest number")
	}
}

// P2.9

func TestJoinGoesOn(t *testing.T) {
	var d draws = 7
	for range 2000 {
		a, b, c := d.word(), d.word(), d.word()
		n, m := int64(d.word())<<20, int64(d.word())
		left := join16(t, join16(t, uint16(a), uint16(b), n), uint16(c), m)
		right := join16(t, uint16(a), join16(t, uint16(b), uint16(c), m), n+m)
		if left != right {
			t.Fatalf("16: %x %x %x, %d %d: %x, %x", a, b, c, n, m, left, right)
		}
		left32 := join32(t, join32(t, a, b, n), c, m)
		right32 := join32(t, a, join32(t, b, c, m), n+m)
		if left32 != right32 {
			t.Fatalf("32: %x %x %x, %d %d: %x, %x", a, b, c, n, m, left32, right32)
		}
	}
}
