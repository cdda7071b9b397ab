package inflate

import (
	"bytes"
	"compress/flate"
	"io"
	"math"
	"slices"
	"testing"
)

// deflated is what Deflate is to answer.
func deflated(b, history []byte) []byte {
	out := data(matched(b, history, 32768, true))
	if other := storedBytes(b, true); len(other) < len(out) {
		return other
	}
	return out
}

// apart answers n bytes, each of nine bits in a fixed block; as long as they are few, no string of three stands there twice.
func apart(n int) []byte {
	out := make([]byte, n)
	for i := range out {
		out[i] = byte(144 + i*i%112)
		if i%2 == 1 {
			out[i] = byte(144 + i%112)
		}
	}
	return out
}

// P20.2

func TestWhatIsWrittenOfTheExamples(t *testing.T) {
	for i, c := range []struct{ got, want []byte }{
		{Stored([]byte("a"), true), []byte{1, 1, 0, 0xfe, 0xff, 'a'}},
		{Stored([]byte("a"), false), []byte{0, 1, 0, 0xfe, 0xff, 'a'}},
		{Stored(nil, true), []byte{1, 0, 0, 0xff, 0xff}},
		{Stored(nil, false), []byte{0, 0, 0, 0xff, 0xff}},
		{Fixed([]byte("a"), true), []byte{0x4b, 0x04, 0x00}},
		{Fixed([]byte("a"), false), []byte{0x4a, 0x04, 0x00}},
		{Fixed(nil, true), []byte{0x03, 0x00}},
		{Fixed(nil, false), []byte{0x02, 0x00}},
		{Fixed([]byte("aaaa"), true), data("1 10", literal('a'), literal('a'), literal('a'), literal('a'), literal(256))},
		{Deflate([]byte("aaaa"), nil), []byte{0x4b, 0x04, 0x02, 0x00}},
		{Deflate(nil, nil), []byte{0x03, 0x00}},
		{Deflate(nil, []byte("abc")), []byte{0x03, 0x00}},
	} {
		if !bytes.Equal(c.got, c.want) {
			t.Errorf("%d: %x instead of %x", i, c.got, c.want)
		}
	}
}

func TestStoredIsCutIntoFullBlocks(t *testing.T) {
	var d draws = 31
	text := d.text(3*65535 + 1)
	for _, n := range []int{0, 1, 2, 255, 256, 65534, 65535, 65536, 2 * 65535, 2*65535 + 1, 3 * 65535, 3*65535 + 1} {
		for _, last := range []bool{true, false} {
			if got := Stored(text[:n], last); !bytes.Equal(got, storedBytes(text[:n], last)) {
				t.Error(n, last, len(got))
			}
		}
		blocks := max(1, (n+65534)/65535)
		if got := Stored(text[:n], true); len(got) != n+5*blocks {
			t.Error(n, len(got))
		}
	}
}

func TestFixedWritesByteByByte(t *testing.T) {
	var d draws = 32
	for _, n := range []int{1, 2, 7, 100, 5000} {
		text := d.text(n)
		for first, last := range []bool{false, true} {
			bits := num(first, 1) + "10"
			for _, c := range text {
				bits += literal(int(c))
			}
			if got, want := Fixed(text, last), data(bits, literal(256)); !bytes.Equal(got, want) {
				t.Errorf("%d: %x instead of %x", n, got, want)
			}
		}
	}
}

func TestDeflateWritesTheLongestStringsOfTheLeastDistance(t *testing.T) {
	var d draws = 33
	for i := range 400 {
		text, history := d.text(d.next(1<<d.next(11))), d.text(d.next(1<<d.next(11)))
		if i%4 == 0 {
			history = nil
		}
		if got, want := Deflate(text, history), deflated(text, history); !bytes.Equal(got, want) {
			t.Fatalf("%x behind %x: %x instead of %x", text, history, got, want)
		}
	}
}

func TestDeflateAtTheEdges(t *testing.T) {
	far := func(n int) []byte { // 0 1 2, and n bytes behind them, none of which begins that string
		return slices.Concat([]byte{0, 1, 2}, bytes.Repeat([]byte{7}, n))
	}
	zeros := func(n int) []byte { return make([]byte, n) }
	for i, c := range []struct{ text, history []byte }{
		{[]byte{0, 1, 2}, far(32765)},
		{[]byte{0, 1, 2}, far(32766)},
		{[]byte{0, 1, 2}, far(32764)},
		{[]byte{0, 1, 2}, far(40000)},
		{[]byte{0, 1}, far(9)},
		{[]byte{7, 7}, far(9)},
		{append(far(32765), 0, 1, 2), nil},
		{append(far(32766), 0, 1, 2), nil},
		{zeros(258), zeros(1)},
		{zeros(259), zeros(1)},
		{zeros(260), zeros(1)},
		{zeros(261), zeros(1)},
		{zeros(262), zeros(1)},
		{zeros(257), zeros(1)},
		{zeros(3), nil},
		{zeros(4), nil},
		{zeros(1), zeros(9)},
		{zeros(2), zeros(9)},
		{zeros(1000), zeros(33000)},
		{[]byte("abcxabcy"), []byte("abcyabcx")},
		{[]byte("abcd"), []byte("abcd abce abc")},
		{[]byte("bcd"), []byte("ab")},
		{[]byte("bab"), []byte("ab")},
		{[]byte("ababab"), []byte("ab")},
	} {
		if got, want := Deflate(c.text, c.history), deflated(c.text, c.history); !bytes.Equal(got, want) {
			t.Errorf("%d: %x instead of %x", i, got, want)
		}
	}
}

func TestDeflateIsStoredWhereThatHasFewerBytes(t *testing.T) {
	for n := 1; n <= 60; n++ {
		text := apart(n)
		bits := data(matched(text, nil, 32768, true))
		if len(bits) != (10+9*n+7)/8 {
			t.Fatal(n, "strings stand in it twice")
		}
		want := bits
		if n >= 31 { // with 30 both have 35
			want = storedBytes(text, true)
		}
		if got := Deflate(text, nil); !bytes.Equal(got, want) {
			t.Errorf("%d: %x instead of %x", n, got, want)
		}
	}
}

// P20.7

func TestWhatIsWrittenIsReadAgain(t *testing.T) {
	var d draws = 37
	for _, n := range []int{0, 1, 2, 3, 10, 1000, 32768, 65535, 65536, 1 << 18, 1<<18 + 1, 300000, 1 << 20} {
		text, history := d.text(n), d.text(d.next(70000))
		for what, b := range map[string][]byte{"Stored": Stored(text, true), "Fixed": Fixed(text, true), "Deflate": Deflate(text, nil)} {
			tells(t, what, append(b, 5), nil, text, len(b))
			tells(t, what, b, history, text, len(b))
			got, err := io.ReadAll(flate.NewReader(bytes.NewReader(b)))
			if err != nil || !bytes.Equal(got, text) {
				t.Error(what, n, err)
			}
		}
		b := Deflate(text, history)
		tells(t, "Deflate", b, history, text, len(b))
		got, err := io.ReadAll(flate.NewReaderDict(bytes.NewReader(b), history))
		if err != nil || !bytes.Equal(got, text) {
			t.Error("Deflate", n, err)
		}
	}
}

func TestWhatDoesNotPackIsReadAgain(t *testing.T) {
	var d draws = 38
	for _, n := range []int{100000, 1 << 18, 1 << 20} {
		text := make([]byte, n) // nine bits for each byte, which go beyond what one reader and one writer hold
		for i := range text {
			text[i] = byte(144 + d.next(112))
		}
		b := Fixed(text, true)
		if len(b) != (10+9*n+7)/8 {
			t.Error(n, len(b))
		}
		tells(t, "Fixed", b, nil, text, len(b))
		b = Deflate(text, nil)
		tells(t, "Deflate", b, nil, text, len(b))
	}
}

func TestBlocksOneBehindTheOther(t *testing.T) {
	var d draws = 39
	a, b, c := d.text(70000), d.text(100), d.text(200000)
	all := slices.Concat(Stored(a, false), Stored(nil, false), Stored(b, false), Fixed(c, true))
	tells(t, "stored ones, and a fixed one", all, nil, slices.Concat(a, b, c), len(all))
	fails(t, "all but the last one", all[:len(Stored(a, false))+5+len(Stored(b, false))], nil, 1<<20, 8)
	all = slices.Concat(Stored(a, false), Deflate(b, a))
	tells(t, "a stored one, and what is packed behind it", all, nil, slices.Concat(a, b), len(all))
	var bits string
	var want []byte
	for i := range 20 {
		text := d.text(d.next(60))
		bits += matched(text, want, 32768, i == 19)
		want = append(want, text...)
	}
	tells(t, "fixed ones", data(bits), nil, want, len(data(bits)))
}

func TestWhatIsWrittenIsNewMemory(t *testing.T) {
	for i, write := range []func(b []byte) []byte{
		func(b []byte) []byte { return Stored(b, true) },
		func(b []byte) []byte { return Fixed(b, true) },
		func(b []byte) []byte { return Deflate(b, b) },
		func(b []byte) []byte { return Deflate(b, nil) },
		func(b []byte) []byte { out, _, _ := Inflate(Stored(b, true), b, 9); return out },
	} {
		text := []byte("abcabc!")
		before := write(text)
		got := write(text)
		_ = append(got[:0], bytes.Repeat([]byte{9}, cap(got))...)
		if !bytes.Equal(write(text), before) || string(text) != "abcabc!" {
			t.Error(i)
		}
	}
	b := Stored([]byte("abc"), true)
	got, _, _ := Inflate(b, nil, math.MaxUint8)
	got[0] = 'x'
	tells(t, "again", b, nil, []byte("abc"), 8)
}
