package fcs

import (
	"bytes"
	"testing"

	"tether/api"
)

// draws is a chain of numbers that are the same at each run.
type draws uint64

func (d *draws) next(below int) int {
	*d = *d*6364136223846793005 + 1442695040888963407
	return int(uint64(*d)>>33) % below
}

func (d *draws) word() uint32 {
	return uint32(d.next(65536))<<16 | uint32(d.next(65536))
}

func (d *draws) bytes(n int) []byte {
	b := make([]byte, n)
	for i := range b {
		b[i] = byte(d.next(256))
	}
	return b
}

// plainOn is the register behind b bit by bit, as the document has it.
func plainOn(r, mod uint32, b []byte) uint32 {
	for _, c := range b {
		r ^= uint32(c)
		for range 8 {
			out := r & 1
			r >>= 1
			if out == 1 {
				r ^= mod
			}
		}
	}
	return r
}

// mixed puts two texts of one length together by exclusive or.
func mixed(a, b []byte) []byte {
	out := bytes.Clone(a)
	for i := range out {
		out[i] ^= b[i]
	}
	return out
}

// P2.1

func TestSumsAsInTheExamples(t *testing.T) {
	if n := Sum16([]byte("123456789")); n != 0x906e {
		t.Errorf("%x", n)
	}
	if n := Sum32([]byte("123456789")); n != 0xcbf43926 {
		t.Errorf("%x", n)
	}
	if Sum16(nil) != 0 || Sum32(nil) != 0 || Sum16([]byte{}) != 0 || Sum32([]byte{}) != 0 {
		t.Error("the sums of none")
	}
	if Good16 != 0xf0b8 || Good32 != 0xdebb20e3 {
		t.Error("the good registers")
	}
}

func TestRegistersAreTheDocuments(t *testing.T) {
	var d draws = 1
	for n := range 70 {
		for range 20 {
			b, r := d.bytes(n), d.word()
			if got, want := On16(uint16(r), b), uint16(plainOn(r&0xffff, 0x8408, b)); got != want {
				t.Fatalf("On16(%x, %x) = %x instead of %x", r, b, got, want)
			}
			if got, want := On32(r, b), plainOn(r, 0xedb88320, b); got != want {
				t.Fatalf("On32(%x, %x) = %x instead of %x", r, b, got, want)
			}
			if got, want := Sum16(b), ^uint16(plainOn(0xffff, 0x8408, b)); got != want {
				t.Fatalf("Sum16(%x) = %x instead of %x", b, got, want)
			}
			if got, want := Sum32(b), ^plainOn(0xffffffff, 0xedb88320, b); got != want {
				t.Fatalf("Sum32(%x) = %x instead of %x", b, got, want)
			}
		}
	}
}

func TestRegistersBehindEachByte(t *testing.T) {
	for c := range 256 {
		b := []byte{byte(c)}
		if On16(0, b) != uint16(plainOn(0, 0x8408, b)) || On32(0, b) != plainOn(0, 0xedb88320, b) {
			t.Error("the byte", c)
		}
	}
	if On16(0x1234, nil) != 0x1234 || On32(0x12345678, nil) != 0x12345678 {
		t.Error("no bytes turn the register")
	}
}

func TestPutWritesTheLowestByteFirst(t *testing.T) {
	text := []byte("123456789")
	if b := Put16(text); !bytes.Equal(b, append(bytes.Clone(text), 0x6e, 0x90)) {
		t.Errorf("%x", b)
	}
	if b := Put32(text); !bytes.Equal(b, append(bytes.Clone(text), 0x26, 0x39, 0xf4, 0xcb)) {
		t.Errorf("%x", b)
	}
	if b := Put16(nil); !bytes.Equal(b, []byte{0, 0}) {
		t.Errorf("%x", b)
	}
	if b := Put32(nil); !bytes.Equal(b, []byte{0, 0, 0, 0}) {
		t.Errorf("%x", b)
	}
}

func TestAnswersAreNewMemory(t *testing.T) {
	room := []byte("abcdefghij")
	one, two := Put16(room[:3]), Put32(room[:3])
	one[0], two[1] = 'X', 'Y'
	if string(room) != "abcdefghij" {
		t.Errorf("Put changes what was handed in: %s", room)
	}
	good16, good32 := Put16([]byte("text")), Put32([]byte("text"))
	cut16, _ := Cut16(good16)
	cut32, _ := Cut32(good32)
	cut16[0], cut32[0] = 'X', 'Y'
	_ = append(cut16, 1, 2)
	_ = append(cut32, 1, 2, 3, 4)
	if !bytes.Equal(good16, Put16([]byte("text"))) || !bytes.Equal(good32, Put32([]byte("text"))) {
		t.Errorf("Cut shares what was handed in: %x %x", good16, good32)
	}
}

// P2.2

func TestCutAsInTheExamples(t *testing.T) {
	if b, e := Cut16([]byte{0}); b != nil || e != api.ErrShort {
		t.Error(b, e)
	}
	if b, e := Cut16([]byte{0, 1}); b != nil || e != api.ErrFcs {
		t.Error(b, e)
	}
	if b, e := Cut16([]byte{0, 0}); len(b) != 0 || e != api.OK {
		t.Error(b, e)
	}
	if b, e := Cut32([]byte{0, 0, 0, 0}); len(b) != 0 || e != api.OK {
		t.Error(b, e)
	}
}

func TestCutRefusesWhatIsShort(t *testing.T) {
	for n := range 4 {
		for _, c := range []byte{0, 1, 255} {
			b := bytes.Repeat([]byte{c}, n)
			if got, e := Cut32(b); got != nil || e != api.ErrShort {
				t.Error("Cut32", b, got, e)
			}
			if got, e := Cut16(b); n < 2 && (got != nil || e != api.ErrShort) {
				t.Error("Cut16", b, got, e)
			}
		}
	}
}

func TestCutRefusesAnotherSum(t *testing.T) {
	text := []byte("some text")
	for _, b := range [][]byte{text, {1, 2}, {0, 0, 0}, Put32(text), append(Put16(text), 0)} {
		if got, e := Cut16(b); got != nil || e != api.ErrFcs {
			t.Errorf("Cut16(%x): %x %d", b, got, e)
		}
	}
	for _, b := range [][]byte{text, {1, 2, 3, 4}, {0, 0, 0, 0, 0}, Put16(text), append(Put32(text), 0)} {
		if got, e := Cut32(b); got != nil || e != api.ErrFcs {
			t.Errorf("Cut32(%x): %x %d", b, got, e)
		}
	}
	n := Sum16(text)
	if _, e := Cut16(append(bytes.Clone(text), byte(n>>8), byte(n))); e != api.ErrFcs {
		t.Error("a sum with its highest byte first is none:", e)
	}
}

// P2.5

func TestCutGivesBackWhatPutTook(t *testing.T) {
	var d draws = 2
	for n := range 200 {
		b := d.bytes(n)
		if got, e := Cut16(Put16(b)); !bytes.Equal(got, b) || e != api.OK {
			t.Fatalf("16: %x: %x %d", b, got, e)
		}
		if got, e := Cut32(Put32(b)); !bytes.Equal(got, b) || e != api.OK {
			t.Fatalf("32: %x: %x %d", b, got, e)
		}
		if On16(0xffff, Put16(b)) != Good16 || On32(0xffffffff, Put32(b)) != Good32 {
			t.Fatalf("%x with its sum is not good", b)
		}
	}
}

// P2.7

// turned answers b with the bits of a pattern turned, the lowest one at the bit at.
func turned(b []byte, at int, pattern uint64) []byte {
	out := bytes.Clone(b)
	for i := 0; pattern>>i != 0; i++ {
		if pattern>>i&1 == 1 {
			out[(at+i)/8] ^= 1 << ((at + i) % 8)
		}
	}
	return out
}

func TestEachBurstOfSixteenBitsIsTold(t *testing.T) {
	text := []byte("burst")
	sum := Sum16(text)
	for at := 0; at+16 <= 8*len(text); at++ {
		for pattern := uint64(1); pattern < 1<<16; pattern += 2 {
			if b := turned(text, at, pattern); Sum16(b) == sum {
				t.Fatalf("%x, as %x at %d", b, pattern, at)
			}
		}
	}
}

func TestBurstsOfThirtyTwoBitsAreTold(t *testing.T) {
	var d draws = 3
	text := d.bytes(40)
	sum := Sum32(text)
	for range 200000 {
		at, pattern := d.next(8*36), uint64(d.word()|1)
		if b := turned(text, at, pattern); Sum32(b) == sum {
			t.Fatalf("%x, as %x at %d", b, pattern, at)
		}
	}
}

func TestEachTurnedBitIsToldByCut(t *testing.T) {
	good16, good32 := Put16([]byte("carried over the line")), Put32([]byte("carried over the line"))
	for at := range 8 * len(good16) {
		if _, e := Cut16(turned(good16, at, 1)); e != api.ErrFcs {
			t.Error("Cut16, the bit", at, e)
		}
	}
	for at := range 8 * len(good32) {
		if _, e := Cut32(turned(good32, at, 1)); e != api.ErrFcs {
			t.Error("Cut32, the bit", at, e)
		}
	}
}

// P2.8

func TestRegistersAreLinear(t *testing.T) {
	var d draws = 4
	for n := range 60 {
		for range 20 {
			a, b, r, s := d.bytes(n), d.bytes(n), d.word(), d.word()
			if On16(uint16(r^s), mixed(a, b)) != On16(uint16(r), a)^On16(uint16(s), b) {
				t.Fatalf("On16: %x %x, %x %x", r, a, s, b)
			}
			if On32(r^s, mixed(a, b)) != On32(r, a)^On32(s, b) {
				t.Fatalf("On32: %x %x, %x %x", r, a, s, b)
			}
		}
	}
}
