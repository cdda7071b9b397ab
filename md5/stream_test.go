package md5

import (
	"slices"
	"testing"

	"tether/api"
)

// written answers a stream of b that came in pieces.
func written(t *testing.T, b []byte, d *draws) *Stream {
	t.Helper()
	s := New()
	for len(b) > 0 {
		n := min(len(b), d.next(150))
		if e := s.Write(b[:n]); e != api.OK {
			t.Fatal(e)
		}
		b = b[n:]
	}
	return s
}

// filled answers what a digest is reckoned of: b, and what fills it up to whole blocks.
func filled(b []byte) []byte {
	out := append(slices.Clone(b), 0x80)
	for len(out)%64 != 56 {
		out = append(out, 0)
	}
	n := uint64(8 * len(b))
	return append(out, byte(n), byte(n>>8), byte(n>>16), byte(n>>24), byte(n>>32), byte(n>>40), byte(n>>48), byte(n>>56))
}

func blocksOf(s *Stream) [][16]byte {
	return slices.Collect(s.Blocks())
}

// P4.2

func TestStreamOfNoBytes(t *testing.T) {
	s := New()
	if s == nil || s.Len() != 0 || s.Sum() != Sum(nil) || len(blocksOf(s)) != 0 {
		t.Error("New answers no stream of no bytes")
	}
	if e := s.Write(nil); e != api.OK || s.Len() != 0 || s.Sum() != Sum(nil) {
		t.Error("Write of none:", e, s.Len())
	}
}

func TestStreamOfNil(t *testing.T) {
	var s *Stream
	s.Reset()
	if e := s.Write([]byte{1}); e != api.ErrNil {
		t.Error("Write:", e)
	}
	if e := s.Write(nil); e != api.ErrNil {
		t.Error("Write of none:", e)
	}
	if s.Sum() != [16]byte{} || s.Len() != 0 || s.Copy() != nil {
		t.Error("a nil stream tells something")
	}
	for range s.Blocks() {
		t.Error("a nil stream has blocks")
	}
}

func TestSumChangesNothing(t *testing.T) {
	var d draws = 5
	b := d.bytes(300)
	s := New()
	for i := range b {
		s.Write(b[i : i+1])
		for range 2 {
			if s.Sum() != Sum(b[:i+1]) || s.Len() != int64(i+1) || len(blocksOf(s)) != (i+1)/64 {
				t.Fatal("behind the byte", i)
			}
		}
	}
}

func TestResetForgetsAllBytes(t *testing.T) {
	var d draws = 6
	for n := range 200 {
		s := written(t, d.bytes(n), &d)
		old := s.Blocks()
		kept := slices.Collect(old)
		s.Reset()
		if s.Len() != 0 || s.Sum() != Sum(nil) || len(blocksOf(s)) != 0 {
			t.Fatal("behind Reset of", n)
		}
		b := d.bytes(d.next(200))
		s.Write(b)
		if s.Len() != int64(len(b)) || s.Sum() != Sum(b) || len(blocksOf(s)) != len(b)/64 {
			t.Fatal("written behind Reset of", n)
		}
		if !slices.Equal(slices.Collect(old), kept) {
			t.Fatal("Reset changes what was answered", n)
		}
	}
}

func TestBlocksAreTheWordsBehindEachBlock(t *testing.T) {
	var d draws = 7
	for n := range 300 {
		b := d.bytes(n)
		got := blocksOf(written(t, filled(b), &d))
		if len(got) != (n+72)/64 || got[len(got)-1] != Sum(b) {
			t.Fatal(n, "bytes:", got)
		}
	}
}

func TestBlocksAreToldAgainAndMayBeLeft(t *testing.T) {
	var d draws = 8
	s := written(t, d.bytes(640), &d)
	seq := s.Blocks()
	all := slices.Collect(seq)
	for n := range all {
		var got [][16]byte
		for w := range seq {
			if got = append(got, w); len(got) == n+1 {
				break
			}
		}
		if !slices.Equal(got, all[:n+1]) {
			t.Fatal(n)
		}
	}
	if len(all) != 10 || s.Len() != 640 {
		t.Error(len(all), s.Len())
	}
}

func TestBlocksTellWhatWasWrittenAheadOfThem(t *testing.T) {
	var d draws = 9
	b := d.bytes(640)
	s := New()
	s.Write(b[:200])
	seq := s.Blocks()
	want := slices.Collect(seq)
	for range seq {
		s.Write(b[:100])
	}
	if !slices.Equal(slices.Collect(seq), want) || s.Len() != 500 {
		t.Error("Blocks hangs on what came behind it")
	}
}

func TestAStreamKeepsNothingThatWasHandedIn(t *testing.T) {
	var d draws = 10
	b := d.bytes(150)
	want := Sum(b)
	s := New()
	in := slices.Clone(b)
	s.Write(in[:30])
	s.Write(in[30:])
	if !slices.Equal(in, b) {
		t.Error("what was handed in is changed")
	}
	clear(in)
	if s.Sum() != want {
		t.Error("what was handed in is kept")
	}
}

// P4.3

func TestPiecesComeToTheSame(t *testing.T) {
	var d draws = 11
	for n := range 600 {
		b := d.bytes(n)
		s := written(t, b, &d)
		if s.Sum() != Sum(b) || s.Len() != int64(n) {
			t.Fatal(n, "bytes")
		}
		whole := New()
		whole.Write(b)
		if whole.Sum() != Sum(b) || !slices.Equal(blocksOf(whole), blocksOf(s)) {
			t.Fatal(n, "bytes at once")
		}
	}
}

// P4.4

func TestBlocksBeginAsThoseOfFewerBytes(t *testing.T) {
	var d draws = 12
	b := d.bytes(700)
	all := blocksOf(written(t, b, &d))
	for n := range b {
		got := blocksOf(written(t, b[:n], &d))
		if len(got) != n/64 || !slices.Equal(got, all[:n/64]) {
			t.Fatal(n, "bytes")
		}
	}
}

// P4.6

func TestACopyIsAnotherOne(t *testing.T) {
	var d draws = 13
	for n := range 300 {
		b, more, other := d.bytes(n), d.bytes(1+d.next(150)), d.bytes(1+d.next(150))
		s := written(t, b, &d)
		c := s.Copy()
		if c.Sum() != Sum(b) || c.Len() != int64(n) || !slices.Equal(blocksOf(c), blocksOf(s)) {
			t.Fatal("the copy is not as it was", n)
		}
		c.Write(more)
		s.Write(other)
		wantMore, wantOther := slices.Concat(b, more), slices.Concat(b, other)
		if s.Sum() != Sum(wantOther) || c.Sum() != Sum(wantMore) || s.Len() != int64(len(wantOther)) || c.Len() != int64(len(wantMore)) {
			t.Fatal("one changes the other one", n)
		}
		if !slices.Equal(blocksOf(s), blocksOf(written(t, wantOther, &d))) || !slices.Equal(blocksOf(c), blocksOf(written(t, wantMore, &d))) {
			t.Fatal("one changes the other one's blocks", n)
		}
		c.Reset()
		if s.Sum() != Sum(wantOther) {
			t.Fatal("Reset of the copy changes the other one", n)
		}
	}
}

// P1

func TestAStreamThatNewDidNotMakeHasNoBytes(t *testing.T) {
	var s Stream
	if s.Len() != 0 || s.Sum() != Sum(nil) {
		t.Error("it has bytes")
	}
	if e := s.Write([]byte("abc")); e != api.OK || s.Sum() != Sum([]byte("abc")) {
		t.Error("it takes none")
	}
}
