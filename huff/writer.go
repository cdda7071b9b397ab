package huff

import (
	"bytes"
	"math/bits"

	"tether/api"
)

const (
	byteSize   = 8
	numberSize = 32      // how many bits a number has at most
	maxWritten = 1 << 21 // how many bits a writer holds at most
)

// Writer: bits, the lowest one of each byte first.
type Writer struct {
	b []byte // those bits of the last byte that are not written are 0
	n int    // how many bits are written
}

// NewWriter answers a writer without bits.
func NewWriter() *Writer {
	return &Writer{}
}

// Bits writes v's n lowest bits, the lowest first.
func (w *Writer) Bits(v uint32, n int) api.Errno {
	switch {
	case w == nil:
		return api.ErrNil
	case n < 0 || n > numberSize || v>>n != 0:
		return api.ErrArg
	}
	return w.add(v, n)
}

// Put writes a symbol's code, the highest bit first.
func (w *Writer) Put(t *Table, symbol int) api.Errno {
	if w == nil || t == nil {
		return api.ErrNil
	}
	c := t.code(symbol)
	if c.Len == 0 {
		return api.ErrNone
	}
	return w.add(bits.Reverse32(uint32(c.Bits))>>(numberSize-c.Len), c.Len)
}

// add writes v, which has n bits.
func (w *Writer) add(v uint32, n int) api.Errno {
	if n > maxWritten-w.n {
		return api.ErrFull
	}
	for n > 0 {
		used := w.n % byteSize
		if used == 0 {
			w.b = append(w.b, 0)
		}
		take := min(n, byteSize-used)
		w.b[len(w.b)-1] |= byte(v << used)
		v >>= take
		n -= take
		w.n += take
	}
	return api.OK
}

// Byte writes bits 0 up to a whole byte.
func (w *Writer) Byte() {
	if w != nil {
		w.n = len(w.b) * byteSize
	}
}

// Len tells how many bits are written.
func (w *Writer) Len() int {
	if w == nil {
		return 0
	}
	return w.n
}

// Bytes answers all that is written, with bits 0 up to the last byte's end.
func (w *Writer) Bytes() []byte {
	if w == nil {
		return nil
	}
	return bytes.Clone(w.b)
}
