package bsd

import (
	"bytes"
	"math"
	"testing"

	"tether/api"
)

// P21.1

func TestDictionariesAreOfNineToFifteenBits(t *testing.T) {
	for _, bits := range []int{math.MinInt, -9, -1, 0, 1, 8, 16, 64, 1<<32 + 9, math.MaxInt} {
		if New(bits) != nil {
			t.Error(bits)
		}
	}
	for bits := 9; bits <= 15; bits++ {
		if d := New(bits); d == nil || d.Seq() != 0 || d.Size() != 0 {
			t.Error(bits)
		}
	}
}

func TestNilDictionary(t *testing.T) {
	var d *Dict
	d.Reset()
	for _, b := range [][]byte{nil, {}, {0}, {0, 0, 0x30, 0xc0, 0x40}, make([]byte, api.MaxMru+1)} {
		if out, shorter, e := d.Pack(b); out != nil || shorter || e != api.ErrNil {
			t.Error(out, shorter, e)
		}
		if out, e := d.Unpack(b); out != nil || e != api.ErrNil {
			t.Error(out, e)
		}
		if e := d.Learn(b); e != api.ErrNil {
			t.Error(e)
		}
	}
	if d.Seq() != 0 || d.Size() != 0 || d.Same(nil) || d.Same(New(9)) || New(9).Same(nil) {
		t.Error("what is nil knows something")
	}
}

func TestResetMakesItAsAtFirst(t *testing.T) {
	var r draws = 1
	for bits := 9; bits <= 15; bits++ {
		d, m := New(bits), newModel(bits)
		for range 5 {
			for range 1 + r.next(5) {
				packs(t, "ahead", d, m, r.text(1+r.next(3000)))
			}
			d.Reset()
			m = newModel(bits)
			alike(t, "reset", d, m)
			if !d.Same(New(bits)) {
				t.Error(bits, "is not as at first")
			}
		}
		d.Reset()
		d.Reset()
		if !d.Same(New(bits)) {
			t.Error(bits, "is not as at first")
		}
	}
}

// P21.5

func TestNumbersGoOnBehind65535(t *testing.T) {
	a, b := New(9), New(9)
	for seq := range 65536 {
		if a.Seq() != seq || b.Seq() != seq {
			t.Fatal(a.Seq(), b.Seq(), seq)
		}
		if seq%2 == 0 {
			a.Learn([]byte{1})
			b.Learn([]byte{1})
			continue
		}
		out, _, _ := a.Pack([]byte{1})
		if !bytes.Equal(out[:2], []byte{byte(seq >> 8), byte(seq)}) {
			t.Fatal(out, seq)
		}
		if got, e := b.Unpack(out); !bytes.Equal(got, []byte{1}) || e != api.OK {
			t.Fatal(got, e)
		}
	}
	if a.Seq() != 0 || b.Seq() != 0 || !a.Same(b) {
		t.Error(a.Seq(), b.Seq())
	}
	if out, _, _ := a.Pack([]byte{1}); !bytes.Equal(out[:2], []byte{0, 0}) {
		t.Error(out)
	}
}

func TestSize(t *testing.T) {
	d := New(12)
	for i, c := range []struct {
		text string
		want int
	}{
		{"a", 0}, {"aa", 1}, {"aa", 1}, {"aaa", 2}, {"aaaaaa", 3}, {"ba", 4}, {"xyz", 6}, {"xyzx", 8},
	} {
		if e := d.Learn([]byte(c.text)); e != api.OK || d.Size() != c.want {
			t.Error(i, e, d.Size())
		}
	}
}

func TestSameAsksForAll(t *testing.T) {
	learned := func(bits int, texts ...string) *Dict {
		d := New(bits)
		for _, s := range texts {
			d.Learn([]byte(s))
		}
		return d
	}
	for i, c := range []struct {
		a, b *Dict
		want bool
	}{
		{New(9), New(9), true},
		{New(9), New(10), false},
		{New(14), New(15), false},
		{learned(9, "abc"), learned(9, "abc"), true},
		{learned(9, "abc"), learned(10, "abc"), false},
		{learned(9, "abc"), New(9), false},
		{learned(9, "a"), New(9), false},
		{learned(9, "a"), learned(9, "b"), true},                // no string, and the same number and balance
		{learned(9, "a", "a"), learned(9, "a"), false},          // another number
		{learned(9, "ab", "a"), learned(9, "a", "ab"), true},    // what came ahead plays no part
		{learned(9, "ab"), learned(9, "ac"), false},             // other strings
		{learned(9, "ab", "ac"), learned(9, "ac", "ab"), false}, // with other codes
		{learned(9, "ab", "a"), learned(9, "ab", "aba"), false},
		{learned(9, "aa", "a"), learned(9, "aa", "aa"), false}, // the same strings, other bytes and codes' bytes
		{learned(9, "ab", "abab"), learned(9, "ab", "abab"), true},
	} {
		if c.a.Same(c.b) != c.want || c.b.Same(c.a) != c.want || !c.a.Same(c.a) {
			t.Error(i)
		}
	}
}

func TestSameAsksForBothSidesOfTheBalance(t *testing.T) {
	a, b := New(9), New(9)
	a.Learn([]byte("a")) // one byte, two bytes of codes
	b.Learn([]byte("b"))
	b.plain++
	if a.Same(b) || b.Same(a) {
		t.Error("bytes of packets")
	}
	b.plain--
	b.packed++
	if a.Same(b) || b.Same(a) {
		t.Error("bytes of codes")
	}
	b.packed--
	if !a.Same(b) {
		t.Error("nothing is another")
	}
}

func TestSameChangesNothing(t *testing.T) {
	a, b := New(12), New(12)
	a.Learn([]byte("hello hello"))
	before := copied(a)
	a.Same(b)
	a.Size()
	a.Seq()
	kept(t, "asking", a, before)
}
