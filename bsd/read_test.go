package bsd

import (
	"bytes"
	"strings"
	"testing"

	"tether/api"
)

// unpacks checks that d unpacks b as want.
func unpacks(t *testing.T, what string, d *Dict, b, want []byte) {
	t.Helper()
	seq, before := d.Seq(), bytes.Clone(b)
	if got, e := d.Unpack(b); !bytes.Equal(got, want) || e != api.OK || d.Seq() != (seq+1)%65536 {
		t.Errorf("%s: %x %d instead of %x, then %d", what, got, e, want, d.Seq())
	}
	if !bytes.Equal(b, before) {
		t.Error(what, "what was handed in is changed")
	}
}

// refuses checks that d refuses b, and that nothing changes.
func refuses(t *testing.T, what string, d *Dict, b []byte, want api.Errno) {
	t.Helper()
	before := copied(d)
	if got, e := d.Unpack(b); got != nil || e != want {
		t.Errorf("%s: %d bytes, %d instead of %d", what, len(got), e, want)
	}
	kept(t, what, d, before)
}

// learned answers a dictionary that has learned a text.
func learned(bits int, text string) *Dict {
	d := New(bits)
	d.Learn([]byte(text))
	return d
}

// nines are codes of nine bits.
func nines(codes ...int) string {
	var out strings.Builder
	for _, c := range codes {
		out.WriteString(num(c, 9))
	}
	return out.String()
}

// P21.4

func TestUnpackOfTheExample(t *testing.T) {
	d, b := New(12), []byte{0x00, 0x00, 0x30, 0xc0, 0x40}
	unpacks(t, "aaa", d, b, []byte("aaa"))
	refuses(t, "once more", d, b, api.ErrSeq)
}

func TestUnpackIsShort(t *testing.T) {
	d := New(9)
	for n := range 4 {
		refuses(t, "as it is", d, make([]byte, n), api.ErrShort)
		refuses(t, "another number, too", d, bytes.Repeat([]byte{9}, n), api.ErrShort)
	}
	refuses(t, "none", d, nil, api.ErrShort)
	unpacks(t, "four", d, make([]byte, 4), []byte{0})
}

func TestUnpackOfAnotherNumber(t *testing.T) {
	d := learned(12, "abc")
	for _, seq := range []int{0, 2, 255, 256, 257, 65535} {
		refuses(t, "a right one", d, packet(seq, nines(5)), api.ErrSeq)
		refuses(t, "a wrong one", d, packet(seq, nines(256)), api.ErrSeq)
		refuses(t, "bits left", d, packet(seq, nines(5), "11111111"), api.ErrSeq)
	}
	unpacks(t, "its own", d, packet(1, nines(5)), []byte{5})
}

func TestUnpackOfCodesThatCanNotBe(t *testing.T) {
	for i, codes := range [][]int{
		{256}, {257}, {511}, {256, 97}, {257, 97},
		{97, 256}, {97, 258}, {97, 511}, {97, 98, 256}, {97, 98, 259}, {97, 257, 259}, {97, 98, 300, 256},
	} {
		refuses(t, "nothing is known, "+string(rune('a'+i)), New(12), packet(0, nines(codes...)), api.ErrData)
	}
	for _, codes := range [][]int{{259}, {256}, {260}, {257, 260}, {257, 256}} {
		refuses(t, "ab and bc are known", learned(12, "abc"), packet(1, nines(codes...)), api.ErrData)
	}
}

func TestUnpackOfItsOwnString(t *testing.T) {
	unpacks(t, "aa", New(9), packet(0, nines('a', 257)), []byte("aaa"))
	unpacks(t, "aa, aaa", New(9), packet(0, nines('a', 257, 258)), []byte("aaaaaa"))
	unpacks(t, "aa, aaa, b", New(9), packet(0, nines('a', 257, 258, 'b')), []byte("aaaaaab"))
	unpacks(t, "aba", learned(9, "ab"), packet(1, nines(257, 258)), []byte("ababa"))
	unpacks(t, "xyz, zx", learned(9, "xyzxyz"), packet(1, nines(260, 259)), []byte("xyzzx"))
	unpacks(t, "one more", learned(9, "ab"), packet(1, nines(257, 258, 259, 'x')), []byte("ab"+"aba"+"abaa"+"x"))
}

func TestUnpackOfOtherCodesThanPackWrites(t *testing.T) {
	for i, c := range []struct {
		known string
		codes []int
	}{
		{"ab", []int{'a', 'b'}},
		{"ab", []int{'x', 'a', 'b'}},
		{"ab", []int{'a', 'b', 'x'}},
		{"aba", []int{257, 'b', 'a'}},
		{"aaa", []int{'a', 'a'}},
		{"aaa", []int{'a', 257}},
		{"abab", []int{'a', 'b', 'a'}},
		{"abcabc", []int{257, 'c', 'a', 'b', 'c', 'a', 'b'}},
	} {
		d := learned(12, c.known)
		refuses(t, "case "+string(rune('a'+i)), d, packet(1, nines(c.codes...)), api.ErrData)
	}
	refuses(t, "a string of the packet itself", New(12), packet(0, nines('a', 'b', 'a', 'b')), api.ErrData)
	refuses(t, "the same string made twice", New(12), packet(0, nines('a', 'b', 'a', 'b', 259)), api.ErrData)
	unpacks(t, "the right one", New(12), packet(0, nines('a', 'b', 257)), []byte("abab"))
	unpacks(t, "the right one", learned(12, "ab"), packet(1, nines(257)), []byte("ab"))
}

func TestUnpackOfBitsThatAreLeft(t *testing.T) {
	for n := range 20 {
		codes := ""
		for i := range n + 1 {
			codes += nines(i)
		}
		text := make([]byte, n+1)
		for i := range text {
			text[i] = byte(i)
		}
		whole := data(codes)
		left := 8*len(whole) - len(codes)
		unpacks(t, "bits 0", New(12), packet(0, codes), text)
		for i := range left {
			b := packet(0, codes)
			b[len(b)-1] |= 1 << i
			refuses(t, "a bit 1", New(12), b, api.ErrData)
		}
		more := append(packet(0, codes), 0)
		if left == 0 {
			refuses(t, "eight bits 0", New(12), more, api.ErrData)
			continue
		}
		if left > 1 { // bits for another code, 0, and fewer than eight behind it
			unpacks(t, "bits for one more", New(12), packet(0, codes, num(255, 9)), append(text, 255))
			continue
		}
		unpacks(t, "a code 0", New(12), more, append(text, 0))
	}
}

func TestUnpackOfEightBitsAndMoreThatAreLeft(t *testing.T) {
	for bits := 9; bits <= 15; bits++ {
		d, m := filled(t, bits)
		for n := bits; n < 50; n++ {
			b := packet(d.Seq(), num(7, bits), strings.Repeat("0", n-bits))
			want, e := m.copy().unpack(b)
			if got, f := copied(d).Unpack(b); f != e || !bytes.Equal(got, want) {
				t.Error(bits, n, got, f, e)
			}
			left := (8*len(b) - 16) % bits // behind as many codes as there are bits for
			if left >= 8 && e != api.ErrData || n == bits && left < 8 && e != api.OK {
				t.Error(bits, n, left, e)
			}
		}
	}
}

// sized is a packet of a new dictionary that says n bytes 0.
func sized(bits, n int) []byte {
	codes, _ := newModel(bits).write(make([]byte, n))
	return packet(0, codes)
}

func TestUnpackOfTooManyBytes(t *testing.T) {
	for bits := 9; bits <= 15; bits++ {
		for _, n := range []int{1, 100, api.MaxMru - 1, api.MaxMru} {
			unpacks(t, "as many as may be", New(bits), sized(bits, n), make([]byte, n))
		}
		for _, n := range []int{api.MaxMru + 1, api.MaxMru + 2, 20000, 100000} {
			refuses(t, "too many", New(bits), sized(bits, n), api.ErrSize)
		}
	}
}

func TestTheFirstFaultFromTheLeft(t *testing.T) {
	most, _ := newModel(15).write(make([]byte, api.MaxMru))
	over, _ := newModel(15).write(make([]byte, api.MaxMru+200))
	wrong := strings.Repeat("1", 10)
	refuses(t, "a code that can not be, and too many bytes", New(15), packet(0, nines(0, 256), over), api.ErrData)
	refuses(t, "too many bytes, and a code that can not be", New(15), packet(0, over, wrong), api.ErrSize)
	refuses(t, "too many bytes, and bits left", New(15), packet(0, over, "0000000000000001"), api.ErrSize)
	refuses(t, "as many as may be, and a code that can not be", New(15), packet(0, most, wrong), api.ErrData)
	refuses(t, "as many as may be, and a bit", New(15), append(packet(0, most[:len(most)/8*8-8]), 0xff, 0xff), api.ErrData)
	refuses(t, "one too many", New(15), packet(0, most, num(5, 9)), api.ErrSize)
}

func TestOtherCodesThanPackWritesOfManyBytes(t *testing.T) {
	codes := func(n int) string {
		var out strings.Builder
		for i := range n { // each of one byte, however long the strings are that are known
			out.WriteString(num(0, least(min(256+i, 1<<15-1))))
		}
		return out.String()
	}
	refuses(t, "as many as may be", New(15), packet(0, codes(api.MaxMru)), api.ErrData)
	refuses(t, "one more", New(15), packet(0, codes(api.MaxMru+1)), api.ErrSize)
	refuses(t, "many more", New(15), packet(0, codes(api.MaxMru+500)), api.ErrSize)
	refuses(t, "one fewer, and one that can not be", New(15), packet(0, codes(api.MaxMru-1), num(256, 15)), api.ErrData)
}

func TestWhatIsUnpackedIsNewMemory(t *testing.T) {
	a, b := New(12), New(12)
	for range 3 {
		out, _, _ := a.Pack([]byte("abcabcabc"))
		got, _ := b.Unpack(out)
		clear(out)
		_ = append(got[:0], bytes.Repeat([]byte{9}, cap(got))...)
	}
	if !a.Same(b) {
		t.Error("memory is shared")
	}
}

// change answers b with a change or two.
func (d *draws) change(b []byte) []byte {
	out := bytes.Clone(b)
	for range 1 + d.next(2) {
		at := min(d.next(len(out)+2), len(out)) // behind the number, mostly
		switch d.next(5) {
		case 0:
			if at < len(out) {
				out[at] ^= 1 << d.next(8)
			}
		case 1:
			out = out[:at]
		case 2:
			out = append(out, byte(d.next(256)))
		case 3:
			out = append(out, 0)
		default:
			if at > 2 && at < len(out) {
				out[at] = byte(d.next(256))
			}
		}
	}
	return out
}

// P21.4, P1

func TestUnpackIsAsItsWords(t *testing.T) {
	var r draws = 11
	found := map[api.Errno]int{}
	for range 1500 {
		bits := 9 + r.next(7)
		d, m := New(bits), newModel(bits)
		for range r.next(5) {
			packs(t, "known", d, m, r.text(1+r.next(1<<r.next(12))))
		}
		for range 8 {
			b := m.copy().pack(r.text(1 + r.next(1<<r.next(8))))
			if r.next(4) > 0 {
				b = r.change(b)
			}
			before, known := bytes.Clone(b), copied(d)
			want, e := m.unpack(b)
			got, f := d.Unpack(b)
			if !bytes.Equal(got, want) || f != e || !bytes.Equal(b, before) {
				t.Fatalf("%x: %x %d instead of %x %d", b, got, f, want, e)
			}
			if f != api.OK {
				kept(t, "refused", d, known)
			}
			alike(t, "unpacked", d, m)
			found[e]++
		}
	}
	for _, e := range []api.Errno{api.OK, api.ErrShort, api.ErrSeq, api.ErrData} {
		if found[e] < 50 {
			t.Error(e, found)
		}
	}
}

func TestUnpackOfAnyBytes(t *testing.T) {
	var r draws = 12
	for range 3000 {
		d := New(9 + r.next(7))
		for range r.next(3) {
			d.Learn(r.text(1 + r.next(3000)))
		}
		b := append([]byte{byte(d.Seq() >> 8), byte(d.Seq())}, r.text(r.next(200))...)
		before := copied(d)
		got, e := d.Unpack(b)
		if e == api.OK { // what is read is what is written
			if out, _, _ := before.Pack(got); !bytes.Equal(out, b) || !before.Same(d) {
				t.Fatalf("%x: %x", b, got)
			}
			continue
		}
		if got != nil || e != api.ErrData && e != api.ErrShort {
			t.Fatal(got, e)
		}
		kept(t, "refused", d, before)
	}
}

// P21.6

func TestWhatIsPackedIsUnpacked(t *testing.T) {
	var r draws = 13
	for range 150 {
		bits := 9 + r.next(7)
		a, b := New(bits), New(bits)
		for range r.next(30) {
			text := r.text(1 + r.next(1<<r.next(15)))
			out, shorter, e := a.Pack(text)
			if e != api.OK {
				t.Fatal(e)
			}
			if shorter || r.next(3) == 0 {
				unpacks(t, "packed", b, out, text)
			} else if e := b.Learn(text); e != api.OK {
				t.Fatal(e)
			}
			if !a.Same(b) {
				t.Fatal("they do not know the same")
			}
		}
	}
}

func TestWhatIsPackedIsUnpackedAtTheEdges(t *testing.T) {
	for bits := 9; bits <= 15; bits++ {
		a, b := New(bits), New(bits)
		text := apart(65537)
		for _, n := range []int{1, 254, 2, 1, 255, 256, 257, 510, 511, 512, 1023, 1024, 2048, 4096, 8192, 16384, 16384} {
			out, _, _ := a.Pack(text[:n])
			unpacks(t, "apart", b, out, text[:n])
			out, _, _ = a.Pack(text[:n])
			unpacks(t, "again", b, out, text[:n])
			if !a.Same(b) {
				t.Fatal(bits, n)
			}
			text = text[n-1:]
		}
	}
}

// P21.7

func TestAPacketThatIsLostIsTold(t *testing.T) {
	var r draws = 14
	for range 100 {
		bits := 9 + r.next(7)
		a, b := New(bits), New(bits)
		for range r.next(5) {
			text := r.text(1 + r.next(300))
			out, _, _ := a.Pack(text)
			unpacks(t, "ahead", b, out, text)
		}
		a.Pack(r.text(1 + r.next(300)))
		for range 1 + r.next(4) {
			out, _, _ := a.Pack(r.text(1 + r.next(300)))
			refuses(t, "behind one that is lost", b, out, api.ErrSeq)
		}
		a.Reset()
		b.Reset()
		if !a.Same(b) || !a.Same(New(bits)) {
			t.Fatal("not as at first")
		}
		text := r.text(500)
		out, _, _ := a.Pack(text)
		unpacks(t, "reset", b, out, text)
	}
}
