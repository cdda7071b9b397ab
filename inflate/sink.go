package inflate

import "tether/huff"

// fullPiece is from how many bits on a piece is put away.
const fullPiece = 1 << 20

// sink: bits that are written, of which a writer holds a piece, as it can't hold all of any data.
type sink struct {
	done []byte // the pieces ahead
	w    *huff.Writer
}

func newSink() *sink {
	return &sink{w: huff.NewWriter()}
}

// bits writes a number of n bits.
func (s *sink) bits(v, n int) {
	s.w.Bits(uint32(v), n)
	s.spill()
}

// symbol writes a symbol's code.
func (s *sink) symbol(t *huff.Table, symbol int) {
	s.w.Put(t, symbol)
	s.spill()
}

// spill puts a full piece's whole bytes away.
func (s *sink) spill() {
	n := s.w.Len()
	if n < fullPiece {
		return
	}
	b := s.bytes()
	s.w = huff.NewWriter()
	if n%8 > 0 {
		s.w.Bits(uint32(b[len(b)-1]), n%8)
		b = b[:len(b)-1]
	}
	s.done = b
}

// bytes answers all that is written, with bits 0 up to the next byte.
func (s *sink) bytes() []byte {
	return append(s.done, s.w.Bytes()...)
}
