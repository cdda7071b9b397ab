package bsd

import (
	"bytes"
	"slices"
	"testing"

	"tether/api"
)

// P21.2

func TestPackOfTheExample(t *testing.T) {
	out, shorter, e := New(12).Pack([]byte("aaa"))
	if !bytes.Equal(out, []byte{0x00, 0x00, 0x30, 0xc0, 0x40}) || shorter || e != api.OK {
		t.Errorf("%x %v %d", out, shorter, e)
	}
}

func TestPackByHand(t *testing.T) {
	d := New(15)
	for i, c := range []struct {
		text string
		want []byte
	}{
		{"a", packet(0, num('a', 9))},
		{"ab", packet(1, num('a', 9), num('b', 9))}, // ab: 257
		{"ab", packet(2, num(257, 9))},
		{"aba", packet(3, num(257, 9), num('a', 9))},                         // aba: 258
		{"abab", packet(4, num(258, 9), num('b', 9))},                        // abab: 259
		{"ababababa", packet(5, num(259, 9), num(260, 9))},                   // ababa: 260, which the next code is of
		{"\x00\xff\x00\xff", packet(6, num(0, 9), num(255, 9), num(261, 9))}, // 0 255: 261; 255 0: 262
		{"zzzzzz", packet(7, num('z', 9), num(263, 9), num(264, 9))},         // zz: 263; zzz: 264
		{"zzzzzzzzzz", packet(8, num(264, 9), num(265, 9), num(264, 9))},     // zzzz: 265; zzzzz: 266
		{"zzzzzzzzzzz", packet(9, num(266, 9), num(267, 9))},                 // zzzzzz: 267
	} {
		out, shorter, e := d.Pack([]byte(c.text))
		if !bytes.Equal(out, c.want) || shorter != (len(c.want) < len(c.text)) || e != api.OK {
			t.Errorf("%d: %x %v %d instead of %x", i, out, shorter, e, c.want)
		}
	}
}

func TestPacketsOfAWrongSize(t *testing.T) {
	d := New(9)
	d.Learn([]byte("abcabc"))
	before := copied(d)
	for _, b := range [][]byte{nil, {}, make([]byte, api.MaxMru+1), make([]byte, 1<<20)} {
		if out, shorter, e := d.Pack(b); out != nil || shorter || e != api.ErrSize {
			t.Error(len(b), out, shorter, e)
		}
		if e := d.Learn(b); e != api.ErrSize {
			t.Error(len(b), e)
		}
	}
	kept(t, "a wrong size", d, before)
	m := newModel(9)
	m.pack([]byte("abcabc"))
	for _, n := range []int{1, api.MaxMru - 1, api.MaxMru} {
		packs(t, "a right size", d, m, make([]byte, n))
		if e := d.Learn(make([]byte, n)); e != api.OK {
			t.Error(n, e)
		}
		m.pack(make([]byte, n))
		alike(t, "a right size", d, m)
	}
}

func TestPackIsAsItsWords(t *testing.T) {
	var r draws = 2
	for range 300 {
		bits := 9 + r.next(7)
		d, m := New(bits), newModel(bits)
		for range r.next(12) {
			packs(t, "drawn", d, m, r.text(1+r.next(1<<r.next(14))))
		}
	}
}

func TestWidths(t *testing.T) {
	for bits := 9; bits <= 15; bits++ {
		d, m := New(bits), newModel(bits)
		text := apart(40000)
		for _, n := range []int{255, 1, 1, 1, 255, 2, 510, 3, 1022, 3, 2047, 4095, 8191, 16384} {
			packs(t, "apart", d, m, text[:n])
			text = text[n-1:]
		}
	}
}

func TestWidthsOfCodesOfOneByte(t *testing.T) {
	for _, c := range []struct{ n, bits int }{
		{255, 255 * 9}, {256, 256 * 9}, {257, 256*9 + 10}, {256 + 512, 256*9 + 512*10}, {256 + 513, 256*9 + 512*10 + 11},
		{256 + 512 + 1024 + 1, 256*9 + 512*10 + 1024*11 + 12},
		{256 + 512 + 1024 + 2048 + 1, 256*9 + 512*10 + 1024*11 + 2048*12 + 13},
		{256 + 512 + 1024 + 2048 + 4096 + 1, 256*9 + 512*10 + 1024*11 + 2048*12 + 4096*13 + 14},
		{256 + 512 + 1024 + 2048 + 4096 + 8192, 256*9 + 512*10 + 1024*11 + 2048*12 + 4096*13 + 8192*14},
		{256 + 512 + 1024 + 2048 + 4096 + 8192 + 1, 256*9 + 512*10 + 1024*11 + 2048*12 + 4096*13 + 8192*14 + 15},
	} {
		d := New(15)
		if out, shorter, e := d.Pack(apart(c.n)); len(out) != 2+(c.bits+7)/8 || shorter || e != api.OK {
			t.Error(c.n, len(out), shorter, e)
		}
		if d.Size() != c.n-1 {
			t.Error(c.n, d.Size())
		}
	}
	for _, c := range []struct{ bits, n int }{{9, 255}, {9, 256}, {9, 257}, {10, 767}, {10, 768}, {10, 769}} {
		d := New(c.bits)
		d.plain = 1 << 20 // so that the strings are not forgotten
		want := 256*9 + (c.n-256)*10
		if c.bits == 9 {
			want = c.n * 9
		}
		if out, _, e := d.Pack(apart(c.n)); len(out) != 2+(want+7)/8 || e != api.OK {
			t.Error(c.bits, c.n, len(out), e)
		}
		if most := 1<<c.bits - 257; d.Size() != min(c.n-1, most) {
			t.Error(c.bits, c.n, d.Size())
		}
	}
}

func TestWhetherItIsShorter(t *testing.T) {
	var r draws = 3
	found := map[int]int{}
	for range 20000 {
		d := New(9 + r.next(7))
		b := r.text(1 + r.next(60))
		out, shorter, _ := d.Pack(b)
		if shorter != (len(out) < len(b)) {
			t.Fatalf("%x: %x %v", b, out, shorter)
		}
		found[len(out)-len(b)]++
	}
	for diff := -2; diff <= 2; diff++ {
		if found[diff] < 10 {
			t.Error(diff, found[diff])
		}
	}
}

func TestAPacketIsLearnedWhicheverItIs(t *testing.T) {
	a, b, c := New(12), New(12), New(12)
	for _, s := range []string{"abc", "abcabcabcabcabcabcabc", "x", "abcabcabcabcabcabc"} {
		out, shorter, _ := a.Pack([]byte(s))
		b.Learn([]byte(s))
		if got, e := c.Unpack(out); string(got) != s || e != api.OK {
			t.Error(s, got, e)
		}
		if !a.Same(b) || !a.Same(c) || shorter != (len(s) > 10) {
			t.Error(s, shorter)
		}
	}
}

func TestWhatIsPackedIsNewMemory(t *testing.T) {
	d, text := New(12), []byte("abcabc!")
	out, _, _ := d.Pack(text)
	_ = append(out[:0], bytes.Repeat([]byte{9}, cap(out))...)
	clear(text)
	m := newModel(12)
	m.pack([]byte("abcabc!"))
	packs(t, "later", d, m, []byte("abcabcabcabc!"))
}

// P21.3

func TestLearnIsAsPack(t *testing.T) {
	var r draws = 4
	for range 200 {
		bits := 9 + r.next(7)
		a, b, m := New(bits), New(bits), newModel(bits)
		for range r.next(12) {
			text := r.text(1 + r.next(1<<r.next(14)))
			before := bytes.Clone(text)
			if e := a.Learn(text); e != api.OK || !bytes.Equal(text, before) {
				t.Fatal(e, "or what was handed in is changed")
			}
			b.Pack(text)
			m.pack(text)
			alike(t, "learned", a, m)
			if !a.Same(b) {
				t.Fatal("not the same")
			}
		}
	}
}

// cleared tells whether d has just forgotten its strings.
func cleared(d *Dict) bool {
	return d.Size() == 0 && d.plain == 0 && d.packed == 0
}

// fill learns as many strings as there may be, none of which is longer than two bytes.
func fill(t *testing.T, d *Dict, m *model) {
	t.Helper()
	text := apart(1<<d.bits - 256) // which makes one string fewer than it has bytes
	for len(text) > 1 {
		if d.Seq() > 0 && cleared(d) {
			t.Error(d.bits, "is forgotten ahead of time")
		}
		n := min(len(text), api.MaxMru)
		packs(t, "filling", d, m, text[:n])
		text = text[n-1:]
	}
}

// filled answers a dictionary that is full, and the model of it.
func filled(t *testing.T, bits int) (*Dict, *model) {
	t.Helper()
	d, m := New(bits), newModel(bits)
	d.plain, m.plain = 1<<20, 1<<20 // so that it is not forgotten
	fill(t, d, m)
	if d.Size() != 1<<bits-257 {
		t.Fatal(bits, d.Size())
	}
	return d, m
}

func TestWhatPacksBadlyIsForgotten(t *testing.T) {
	for bits := 9; bits <= 15; bits++ {
		d, m := New(bits), newModel(bits)
		fill(t, d, m)
		if !cleared(d) || d.Seq() == 0 {
			t.Error(bits, d.Size(), d.plain, d.packed, d.Seq())
		}
		packs(t, "behind it", d, m, []byte("abab"))
		if d.Size() != 2 {
			t.Error(bits, d.Size())
		}
	}
}

func TestAFullDictionaryIsReadOn(t *testing.T) {
	for bits := 9; bits <= 15; bits++ {
		d, m := filled(t, bits)
		o := copied(d)
		for _, text := range [][]byte{apart(100), make([]byte, 100), []byte("hello hello"), apart(600)[300:]} {
			b := packs(t, "full", d, m, text)
			if len(b) > 2+(len(text)*bits+7)/8 || d.Size() != 1<<bits-257 {
				t.Error(bits, len(b), d.Size())
			}
			unpacks(t, "full", o, b, text)
		}
		if !d.Same(o) {
			t.Error(bits, "they do not know the same")
		}
	}
}

func TestWhatIsNotFullIsNotForgotten(t *testing.T) {
	d, m := New(9), newModel(9)
	packs(t, "a string too few", d, m, apart(255)) // 254 strings, of 255
	if d.Size() != 254 || cleared(d) {
		t.Error(d.Size())
	}
	packs(t, "the last one", d, m, []byte{0xfe, 0xfe})
	if !cleared(d) || d.Seq() != 2 {
		t.Error(d.Size())
	}
}

func TestWhatPacksWellIsNotForgotten(t *testing.T) {
	for bits := 9; bits <= 15; bits++ {
		d, m := New(bits), newModel(bits)
		var r draws = 5
		text := r.text(300)
		for range 3000 {
			text = append(text[1:], byte(r.next(2)))
			packs(t, "few kinds", d, m, text)
			if d.Size() == 1<<bits-257 {
				break
			}
		}
		if d.Size() != 1<<bits-257 {
			t.Error(bits, d.Size())
			continue
		}
		packs(t, "full", d, m, text)
		if cleared(d) {
			t.Error(bits, "is forgotten")
		}
		for range 1000 {
			packs(t, "many kinds", d, m, r.text(5000)[:1+r.next(5000)])
			if cleared(d) {
				break
			}
			for i := range text {
				text[i] = byte(r.next(256))
			}
			packs(t, "many kinds", d, m, text)
			if cleared(d) {
				break
			}
		}
		if !cleared(d) {
			t.Error(bits, "is not forgotten", d.plain, d.packed)
		}
	}
}

func TestTheBalanceAtItsEdge(t *testing.T) {
	found := map[int]int{}
	all := apart(320)
	for a := 200; a < 320; a++ {
		for b := 1; b < 120; b++ {
			text := slices.Concat(all[:a], all[:b])
			m := newModel(9)
			bits, _ := m.write(text)
			full, over := len(m.codes) == 255, len(data(bits))-len(text)
			d := New(9)
			out, _, _ := d.Pack(text)
			if len(out)-2-len(text) != over || cleared(d) != (full && over >= 0) {
				t.Fatal(a, b, full, over, d.Size())
			}
			if full {
				found[over]++
			}
		}
	}
	for over := -2; over <= 2; over++ {
		if found[over] == 0 {
			t.Error(over, found)
		}
	}
}

func TestTheBalanceIsThatOfAllPackets(t *testing.T) {
	d := New(9)
	d.Learn(make([]byte, 10000)) // which packs well
	m := newModel(9)
	m.pack(make([]byte, 10000))
	packs(t, "badly", d, m, apart(300))
	if d.Size() != 255 {
		t.Error(d.Size())
	}
	for i := range 400 {
		packs(t, "badly", d, m, apart(600)[300:])
		if cleared(d) {
			if i < 10 {
				t.Error(i)
			}
			return
		}
	}
	t.Error(d.plain, d.packed)
}

// P21.8, P21.9

func TestBounds(t *testing.T) {
	var r draws = 6
	for bits := 9; bits <= 15; bits++ {
		d, m := New(bits), newModel(bits)
		for range 60 {
			text := r.text(1 + r.next(4000))
			top := m.top()
			before := m.copy()
			_, codes := before.write(text)
			out, _, _ := d.Pack(text)
			m.pack(text)
			if codes > len(text) || len(out)-2 > (codes*bits+7)/8 || len(out)-2 < (codes*9+7)/8 {
				t.Fatal(codes, len(text), len(out), top)
			}
			if d.Size() > 1<<bits-257 || len(d.codes) != d.Size() || d.Size() != len(d.pairs) {
				t.Fatal(d.Size(), len(d.codes))
			}
		}
	}
}
