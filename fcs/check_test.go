package fcs

import (
	"math"
	"testing"

	"tether/api"
)

// P2.4

func TestNewRefusesOtherSums(t *testing.T) {
	for _, bits := range []int{0, 1, 8, 15, 17, 24, 31, 33, 64, -16, -32, math.MinInt, math.MaxInt} {
		if c := New(bits); c != nil {
			t.Error(bits, "bits")
		}
	}
	for _, bits := range []int{16, 32} {
		if c := New(bits); c == nil || c.Len() != 0 || c.Sum() != 0 || c.Good() {
			t.Error(bits, "bits")
		}
	}
}

func TestCheckOfNil(t *testing.T) {
	var c *Check
	c.Reset()
	if e := c.Add([]byte{1}); e != api.ErrNil {
		t.Error("Add:", e)
	}
	if e := c.Add(nil); e != api.ErrNil {
		t.Error("Add of none:", e)
	}
	if c.Good() || c.Sum() != 0 || c.Len() != 0 {
		t.Error("a nil check tells something")
	}
}

func TestCheckTellsSumAndLength(t *testing.T) {
	c16, c32 := New(16), New(32)
	for _, c := range []*Check{c16, c32} {
		if e := c.Add([]byte("123456789")); e != api.OK || c.Len() != 9 || c.Good() {
			t.Error("Add:", e, c.Len(), c.Good())
		}
		if e := c.Add(nil); e != api.OK || c.Len() != 9 {
			t.Error("Add of none:", e, c.Len())
		}
	}
	if c16.Sum() != 0x906e || c32.Sum() != 0xcbf43926 {
		t.Errorf("%x %x", c16.Sum(), c32.Sum())
	}
}

func TestCheckTellsWhatIsGood(t *testing.T) {
	text := []byte("some text")
	c16, c32 := New(16), New(32)
	c16.Add(Put16(text))
	c32.Add(Put32(text))
	if !c16.Good() || !c32.Good() || c16.Len() != 11 || c32.Len() != 13 {
		t.Error("what Put answers is not good")
	}
	c16.Add([]byte{0})
	c32.Add([]byte{0})
	if c16.Good() || c32.Good() {
		t.Error("one byte more is good")
	}
	c16, c32 = New(16), New(32)
	c16.Add(Put32(text))
	c32.Add(Put16(text))
	if c16.Good() || c32.Good() {
		t.Error("another sum is good")
	}
}

func TestCheckTakesTwoOrFourBytesToBeGood(t *testing.T) {
	c16, c32 := New(16), New(32)
	for n := 1; n <= 5; n++ {
		c16.Add([]byte{0})
		c32.Add([]byte{0})
		if c16.Good() != (n == 2) || c32.Good() != (n == 4) {
			t.Error(n, "bytes 0:", c16.Good(), c32.Good())
		}
	}
}

func TestResetForgetsAll(t *testing.T) {
	for _, bits := range []int{16, 32} {
		c, fresh := New(bits), New(bits)
		c.Add([]byte("what came ahead"))
		c.Reset()
		if c.Len() != 0 || c.Sum() != 0 || c.Good() {
			t.Error(bits, "behind Reset:", c.Len(), c.Sum(), c.Good())
		}
		c.Add([]byte("text"))
		fresh.Add([]byte("text"))
		if c.Sum() != fresh.Sum() || c.Len() != fresh.Len() {
			t.Error(bits, "behind Reset another sum")
		}
	}
}

// P2.6

func TestPiecesComeToTheSame(t *testing.T) {
	var d draws = 8
	for range 500 {
		b := d.bytes(d.next(80))
		if d.next(2) == 0 {
			b = Put32(Put16(b))
		}
		c16, c32 := New(16), New(32)
		r16, r32 := uint16(0xffff), uint32(0xffffffff)
		for at := 0; at < len(b); {
			n := min(d.next(9), len(b)-at)
			piece := b[at : at+n]
			c16.Add(piece)
			c32.Add(piece)
			r16, r32 = On16(r16, piece), On32(r32, piece)
			at += n
		}
		if ^r16 != Sum16(b) || ^r32 != Sum32(b) {
			t.Fatalf("the registers of %x", b)
		}
		if c16.Sum() != uint32(Sum16(b)) || c32.Sum() != Sum32(b) || c16.Len() != int64(len(b)) || c32.Len() != int64(len(b)) {
			t.Fatalf("the checks of %x", b)
		}
		_, e16 := Cut16(b)
		_, e32 := Cut32(b)
		if c16.Good() != (e16 == api.OK) || c32.Good() != (e32 == api.OK) {
			t.Fatalf("what is good of %x", b)
		}
	}
}

func TestChecksDoNotHangOnOneAnother(t *testing.T) {
	a, b := New(16), New(16)
	a.Add([]byte("abc"))
	b.Add([]byte("xyz"))
	a.Add([]byte("def"))
	if a.Sum() != uint32(Sum16([]byte("abcdef"))) || b.Sum() != uint32(Sum16([]byte("xyz"))) {
		t.Error("two checks share something")
	}
}

// P1

func TestACheckThatNewDidNotMakeDoesNotPanic(t *testing.T) {
	var c Check
	c.Add([]byte{1, 2, 3, 4, 5})
	c.Good()
	c.Sum()
	c.Reset()
	if c.Len() != 0 {
		t.Error(c.Len())
	}
}
