package inflate

import (
	"bytes"
	"math"
	"slices"
	"strings"
	"testing"

	"tether/api"
)

const most = api.MaxMru + 2

// packed is what Pack is to answer.
func packed(seq int, frame, history []byte, size int) []byte {
	out := data(matched(frame, history, size, false), "000")
	if other := append(storedBytes(frame, false), 0); len(other) < len(out) {
		out = other
	}
	return append([]byte{byte(seq >> 8), byte(seq)}, out...)
}

// packs checks that p packs a frame as want.
func packs(t *testing.T, what string, p *Packer, frame, want []byte) {
	t.Helper()
	before := bytes.Clone(frame)
	if got, e := p.Pack(frame); !bytes.Equal(got, want) || e != api.OK {
		t.Errorf("%s: %x %d instead of %x", what, got, e, want)
	}
	if !bytes.Equal(frame, before) {
		t.Error(what, "what was handed in is changed")
	}
}

// unpacks checks that u unpacks a packet as want.
func unpacks(t *testing.T, what string, u *Unpacker, b, want []byte) {
	t.Helper()
	seq, before := u.Seq(), bytes.Clone(b)
	if got, e := u.Unpack(b); !bytes.Equal(got, want) || e != api.OK || u.Seq() != (seq+1)%65536 {
		t.Errorf("%s: %x %d instead of %x, then %d", what, got, e, want, u.Seq())
	}
	if !bytes.Equal(b, before) {
		t.Error(what, "what was handed in is changed")
	}
}

// refuses checks that u refuses a packet, and that nothing changes.
func refuses(t *testing.T, what string, u *Unpacker, b []byte, want api.Errno) {
	t.Helper()
	before := *u
	if got, e := u.Unpack(b); got != nil || e != want {
		t.Errorf("%s: %x %d instead of %d", what, got, e, want)
	}
	if *u != before {
		t.Error(what, "what is refused changes the unpacker")
	}
}

// packet is the packet of a number, with those bits.
func packet(seq int, bits ...string) []byte {
	return append([]byte{byte(seq >> 8), byte(seq)}, data(bits...)...)
}

// P20.3

func TestPackOfTheExample(t *testing.T) {
	p := NewPacker(15)
	packs(t, "a", p, []byte("a"), []byte{0, 0, 0x4a, 0x04, 0x00})
	packs(t, "a again", p, []byte("a"), []byte{0, 1, 0x4a, 0x04, 0x00})
	packs(t, "aaaa", p, []byte("aaaa"), packet(2, "0 10", again(4, 1), literal(256), "000"))
}

func TestEndsAreOfEightToFifteenBits(t *testing.T) {
	for _, bits := range []int{math.MinInt, -1, 0, 7, 16, 64, math.MaxInt} {
		if NewPacker(bits) != nil || NewUnpacker(bits) != nil {
			t.Error(bits)
		}
	}
	for bits := 8; bits <= 15; bits++ {
		if p, u := NewPacker(bits), NewUnpacker(bits); p == nil || u == nil || p.Seq() != 0 || u.Seq() != 0 {
			t.Error(bits)
		}
	}
}

func TestNilEnds(t *testing.T) {
	var p *Packer
	var u *Unpacker
	p.Reset()
	u.Reset()
	for _, b := range [][]byte{nil, {0}, {0, 0, 0x4a, 0x04, 0x00}, make([]byte, most+1)} {
		got, e := p.Pack(b)
		if got != nil || e != api.ErrNil || p.Plain(b) != api.ErrNil {
			t.Error("a packer", got, e)
		}
		got, e = u.Unpack(b)
		if got != nil || e != api.ErrNil || u.Plain(b) != api.ErrNil {
			t.Error("an unpacker", got, e)
		}
	}
	if p.Seq() != 0 || u.Seq() != 0 {
		t.Error(p.Seq(), u.Seq())
	}
}

func TestFramesOfAWrongSize(t *testing.T) {
	p, u := NewPacker(8), NewUnpacker(8)
	p.Plain([]byte("abc"))
	u.Plain([]byte("abc"))
	beforeP, beforeU := *p, *u
	for _, frame := range [][]byte{nil, {}, make([]byte, most+1), make([]byte, 1<<18)} {
		if b, e := p.Pack(frame); b != nil || e != api.ErrSize {
			t.Error(len(frame), b, e)
		}
		if p.Plain(frame) != api.ErrSize || u.Plain(frame) != api.ErrSize {
			t.Error(len(frame))
		}
	}
	if *p != beforeP || *u != beforeU {
		t.Error("what is refused changes an end")
	}
	for _, n := range []int{1, most} {
		frame := make([]byte, n)
		b, e := p.Pack(frame)
		if e != api.OK || p.Plain(frame) != api.OK {
			t.Error(n, e)
		}
		unpacks(t, "its size", u, b, frame)
		if u.Plain(frame) != api.OK {
			t.Error(n)
		}
	}
}

func TestPackHasAllFramesAhead(t *testing.T) {
	var d draws = 41
	for range 60 {
		bits := 8 + d.next(8)
		p := NewPacker(bits)
		var history []byte
		for seq := range d.next(20) {
			frame := d.text(1 + d.next(1<<d.next(10)))
			if d.next(3) == 0 && len(history) > 0 {
				at := d.next(len(history))
				frame = bytes.Clone(history[at:min(at+1+d.next(400), len(history))])
			}
			if d.next(3) == 0 {
				if e := p.Plain(frame); e != api.OK {
					t.Fatal(e)
				}
			} else {
				packs(t, "a frame", p, frame, packed(seq, frame, history, 1<<bits))
			}
			history = append(history, frame...)
			if p.Seq() != seq+1 {
				t.Fatal(p.Seq(), "behind", seq)
			}
		}
	}
}

func TestPackKeepsToItsWindow(t *testing.T) {
	for bits := 8; bits <= 15; bits++ {
		size := 1 << bits
		for _, back := range []int{size - 1, size, size + 1} {
			p := NewPacker(bits)
			history := append([]byte{0, 1, 2}, bytes.Repeat([]byte{7}, back-3)...)
			for rest := history; len(rest) > 0; {
				n := min(len(rest), most)
				p.Plain(rest[:n])
				rest = rest[n:]
			}
			want := packet(p.Seq(), "0 10", literal(0), literal(1), literal(2), literal(256), "000")
			if back <= size {
				want = packet(p.Seq(), "0 10", again(3, back), literal(256), "000")
			}
			packs(t, "far back", p, []byte{0, 1, 2}, want)
		}
	}
}

func TestPackIsStoredWhereThatHasFewerBytes(t *testing.T) {
	for n := 1; n <= 70; n++ {
		p, frame := NewPacker(12), apart(n)
		want := packet(0, matched(frame, nil, 4096, false), "000")
		if len(want) != 2+(13+9*n+7)/8 {
			t.Fatal(n, "strings stand in it twice")
		}
		if n >= 36 { // with 35 both have 43
			want = slices.Concat([]byte{0, 0}, storedBytes(frame, false), []byte{0})
		}
		packs(t, "a frame", p, frame, want)
		packs(t, "the same, which is history then", p, frame, packed(1, frame, frame, 4096))
	}
}

func TestNumbersGoOnBehind65535(t *testing.T) {
	p, u := NewPacker(8), NewUnpacker(8)
	for seq := range 65535 {
		if p.Seq() != seq || u.Seq() != seq || p.Plain([]byte{1}) != api.OK || u.Plain([]byte{1}) != api.OK {
			t.Fatal(seq, p.Seq(), u.Seq())
		}
	}
	for _, seq := range []int{65535, 0, 1} {
		b := packet(seq, "0 10", literal(2), literal(256), "000")
		packs(t, "around the end", p, []byte{2}, b)
		unpacks(t, "around the end", u, b, []byte{2})
	}
	for _, frame := range []string{"abc", "abcd"} {
		p.Plain([]byte(frame))
	}
	if p.Seq() != 4 {
		t.Error(p.Seq())
	}
}

func TestResetIsAsNew(t *testing.T) {
	for bits := 8; bits <= 15; bits++ {
		p, u := NewPacker(bits), NewUnpacker(bits)
		for range 5 {
			b, _ := p.Pack([]byte("abcabcabc"))
			unpacks(t, "ahead", u, b, []byte("abcabcabc"))
		}
		p.Reset()
		u.Reset()
		if *p != *NewPacker(bits) || *u != *NewUnpacker(bits) {
			t.Error(bits, p.Seq(), u.Seq())
		}
		b := packet(0, "0 10", literal('a'), literal('b'), literal('c'), literal(256), "000")
		packs(t, "behind", p, []byte("abc"), b)
		unpacks(t, "behind", u, b, []byte("abc"))
	}
}

// P20.4

func TestUnpackRefusesNumbers(t *testing.T) {
	u := NewUnpacker(15)
	for _, b := range [][]byte{nil, {}, {0}, {1}} {
		refuses(t, "short", u, b, api.ErrShort)
	}
	for _, b := range [][]byte{{0, 1}, {1, 0}, {255, 255}, {0, 1, 0x4a, 0x04, 0x00}} {
		refuses(t, "another number", u, b, api.ErrSeq)
	}
	refuses(t, "no data", u, []byte{0, 0}, api.ErrData)
	unpacks(t, "the right one", u, []byte{0, 0, 0x4a, 0x04, 0x00}, []byte("a"))
	refuses(t, "once more", u, []byte{0, 0, 0x4a, 0x04, 0x00}, api.ErrSeq)
	unpacks(t, "the next one", u, []byte{0, 1, 0x4a, 0x04, 0x00}, []byte("a"))
}

func TestUnpackOfBlocks(t *testing.T) {
	a := "0 10" + literal('a') + literal(256) // 18 bits
	for _, c := range []struct {
		what, bits string
		want       string
	}{
		{"a fixed block", a + "000", "a"},
		{"two of them", a + a + "000", "aa"},
		{"an empty stored one between them", a + filled(18, "000") + num(0, 16) + num(65535, 16) + a + "000", "aa"},
		{"the whole empty stored one", a + filled(18, "000") + num(0, 16) + num(65535, 16) + "000", "a"},
		{"a stored block", "00000000" + num(1, 16) + num(65534, 16) + num('a', 8) + "000", "a"},
		{"bits that are passed over", a + "000" + "111", "a"},
		{"a dynamic one", aAndThree(1) + "10 0 0 11" + "000", "aaaa"},
	} {
		unpacks(t, c.what, NewUnpacker(8), packet(0, c.bits), []byte(c.want))
	}
}

func TestUnpackRefusesData(t *testing.T) {
	u := NewUnpacker(8)
	u.Plain([]byte("abc"))
	a := "0 10" + literal('a') + literal(256)
	for _, c := range []struct{ what, bits string }{
		{"no block", ""},
		{"only the empty one", "000"},
		{"no bytes", "0 10" + literal(256) + "000"},
		{"a block that is the last one", lastOne(a) + "000"},
		{"the empty one, the last one", a + "100"},
		{"a block behind which there is none", "0 10" + strings.Repeat(literal(200), 6) + literal(256)}, // which ends with a byte
		{"a fixed one instead of the empty one", a + "010"},
		{"kind 3", a + "011"},
		{"a fault", "0 10" + literal(286)},
		{"a distance beyond the beginning", "0 10" + again(3, 4) + literal(256) + "000"},
		{"a stored block that takes the four bytes", filled(0, "000") + num(4, 16) + num(65531, 16)},
		{"a stored block with them, and what it takes of them", filled(0, "000") + num(5, 16) + num(65530, 16) + num('a', 8)},
		{"the empty one, and bytes ahead of the data's end", a + "000" + "000" + num(7, 8)},
		{"the empty one of data that go on", a + filled(18, "000") + num(0, 16) + num(65535, 16)},
	} {
		refuses(t, c.what, u, packet(1, c.bits), api.ErrData)
	}
	unpacks(t, "the farthest", u, packet(1, "0 10", again(3, 3), literal(256), "000"), []byte("abc"))
}

func TestUnpackKeepsToItsWindow(t *testing.T) {
	for bits := 8; bits <= 15; bits++ {
		u := NewUnpacker(bits)
		var all []byte
		for range 4 {
			all = append(all, apart(9000)...)
			u.Plain(all[len(all)-9000:])
		}
		size := 1 << bits
		if size < 32768 {
			refuses(t, "too far", u, packet(4, "0 10", again(3, size+1), literal(256), "000"), api.ErrData)
			refuses(t, "far too far", u, packet(4, "0 10", again(3, 32768), literal(256), "000"), api.ErrData)
			long := "0 10"
			for range size/258 + 2 {
				long += again(258, 1)
			}
			refuses(t, "too far, in the frame itself", u, packet(4, long, again(3, size+1), literal(256), "000"), api.ErrData)
		}
		want := all[len(all)-size:][:100]
		unpacks(t, "as far as may be", u, packet(4, "0 10", again(100, size), literal(256), "000"), want)
	}
}

func TestUnpackTellsNoMoreThanAFrame(t *testing.T) {
	u := NewUnpacker(15)
	bits := "0 10" + literal('a')
	for n := 1; n < most-258; n += 258 {
		bits += again(258, 1)
	}
	rest := (most - 1) % 258
	refuses(t, "one more", u, packet(0, bits, again(rest, 1), literal('b'), literal(256), "000"), api.ErrData)
	refuses(t, "some more", u, packet(0, bits, again(rest+1, 1), literal(256), "000"), api.ErrData)
	refuses(t, "stored", u, append(append([]byte{0, 0}, Stored(make([]byte, most+1), false)...), 0), api.ErrData)
	unpacks(t, "just as many", u, packet(0, bits, again(rest, 1), literal(256), "000"), bytes.Repeat([]byte("a"), most))
	unpacks(t, "stored", u, append(append([]byte{0, 1}, Stored(make([]byte, most), false)...), 0), make([]byte, most))
}

// P20.5

func TestFramesAreUnpackedAsTheyWere(t *testing.T) {
	var d draws = 45
	for range 60 {
		bits := 8 + d.next(8)
		p, u := NewPacker(bits), NewUnpacker(bits)
		var frame []byte
		for range d.next(40) {
			if d.next(4) > 0 {
				frame = d.text(min(1+d.next(1<<d.next(16)), most))
			}
			if len(frame) == 0 || d.next(3) == 0 {
				if e := p.Plain(frame); e != u.Plain(frame) || e != api.OK && len(frame) > 0 {
					t.Fatal(e)
				}
				continue
			}
			b, e := p.Pack(frame)
			if e != api.OK || len(b) > len(frame)+8 {
				t.Fatal(e, len(b), len(frame))
			}
			unpacks(t, "a frame", u, b, frame)
			if p.Seq() != u.Seq() {
				t.Fatal(p.Seq(), u.Seq())
			}
		}
	}
}

// P20.6

func TestBehindAPacketThatIsMissing(t *testing.T) {
	p, u := NewPacker(10), NewUnpacker(10)
	frame := []byte("abcabcabc")
	p.Pack(frame)
	for range 3 {
		b, _ := p.Pack(frame)
		refuses(t, "behind it", u, b, api.ErrSeq)
	}
	u.Reset()
	b, _ := p.Pack(frame)
	refuses(t, "one end alone is reset", u, b, api.ErrSeq)
	p.Reset()
	for range 3 {
		b, _ := p.Pack(frame)
		unpacks(t, "both are reset", u, b, frame)
	}
}

// P1

func TestWhatAnEndAnswersIsNewMemory(t *testing.T) {
	p, u := NewPacker(9), NewUnpacker(9)
	frame := []byte("abcabcabc")
	first, _ := p.Pack(frame)
	got, _ := u.Unpack(first)
	for i := range got {
		got[i], frame[i], first[i%len(first)] = 'x', 'y', 'z'
	}
	packs(t, "packed", p, []byte("abcabcabc"), packed(1, []byte("abcabcabc"), []byte("abcabcabc"), 512))
	unpacks(t, "unpacked", u, packet(1, "0 10", again(9, 9), literal(256), "000"), []byte("abcabcabc"))
	plain := []byte("plain")
	p.Plain(plain)
	u.Plain(plain)
	plain[0] = 'x'
	unpacks(t, "plain", u, packet(3, "0 10", again(5, 5), literal(256), "000"), []byte("plain"))
	packs(t, "plain", p, []byte("plain"), packet(3, "0 10", again(5, 5), literal(256), "000"))
}

func TestEndsThatNoCallMade(t *testing.T) {
	p, u := &Packer{}, &Unpacker{}
	for range 3 {
		b, e := p.Pack([]byte("aaaa"))
		if e != api.OK {
			t.Error(e)
		}
		unpacks(t, "without a window", u, b, []byte("aaaa"))
	}
	p.Reset()
	u.Reset()
}
