package inflate

import (
	"tether/api"
	"tether/huff"
)

// longestRead is how many bits are read at once at most.
const longestRead = 32

// source: bits of data, of which a reader holds a piece, as it can't hold all of any data.
type source struct {
	b   []byte
	end int // where the piece ends
	r   *huff.Reader
}

// newSource answers a source at the first bit of b.
func newSource(b []byte) source {
	s := source{b: b}
	s.open(0)
	return s
}

// open begins a piece with the bit at.
func (s *source) open(at int) {
	begin := at / 8
	s.r = huff.NewReader(s.b[begin:])
	s.end = begin + s.r.Left()/8
	s.r.Bits(at % 8)
}

// fill sees to it that what is read at once stands in one piece.
func (s *source) fill() {
	if s.r.Left() < longestRead && s.end < len(s.b) {
		s.open(s.end*8 - s.r.Left())
	}
}

// bits reads a number of n bits.
func (s *source) bits(n int) (int, api.Errno) {
	s.fill()
	v, e := s.r.Bits(n)
	return int(v), e
}

// symbol reads a symbol.
func (s *source) symbol(t *huff.Table) (int, api.Errno) {
	s.fill()
	if s.r.Left() == 0 {
		return 0, api.ErrShort
	}
	symbol, e := s.r.Get(t)
	if e == api.ErrHuff {
		e = api.ErrData
	}
	return symbol, e
}

// whole goes on to the next whole byte.
func (s *source) whole() {
	s.r.Byte()
}

// left tells how many bits are left.
func (s *source) left() int {
	return (len(s.b)-s.end)*8 + s.r.Left()
}

// used tells how many bytes have been read, or begun to be.
func (s *source) used() int {
	return len(s.b) - s.left()/8
}
