package huff

import (
	"bytes"

	"tether/api"
)

// maxRead is how many bytes a reader holds at most.
const maxRead = 1 << 18

// Reader: bits that are read back.
type Reader struct {
	b  []byte
	at int // how many bits are read
}

// NewReader answers a reader at the first bit of b, of which it holds no more than it may.
func NewReader(b []byte) *Reader {
	return &Reader{b: bytes.Clone(b[:min(len(b), maxRead)])}
}

// Bits reads a number of n bits.
func (r *Reader) Bits(n int) (uint32, api.Errno) {
	switch {
	case r == nil:
		return 0, api.ErrNil
	case n < 0 || n > numberSize:
		return 0, api.ErrArg
	case n > r.Left():
		return 0, api.ErrShort
	}
	var v uint64 // the bytes in which the bits stand, which are five at most
	first, behind := r.at/byteSize, (r.at+n+byteSize-1)/byteSize
	for i := behind - 1; i >= first; i-- {
		v = v<<byteSize | uint64(r.b[i])
	}
	v >>= r.at % byteSize
	r.at += n
	return uint32(v & (1<<n - 1)), api.OK
}

// Get reads the symbol whose code stands next.
func (r *Reader) Get(t *Table) (int, api.Errno) {
	if r == nil || t == nil {
		return 0, api.ErrNil
	}
	code, shorter := 0, 0 // the bits so far, and how many symbols have codes of fewer
	symbol, at, e := 0, r.at, api.ErrHuff
walk:
	for n, many := range t.counts {
		nth := code - t.firsts[n]
		switch {
		case code<<(maxLength-n) >= t.share:
			break walk
		case nth < many:
			symbol, e = t.symbols[shorter+nth], api.OK
			break walk
		case at == len(r.b)*byteSize:
			e = api.ErrShort
			break walk
		}
		shorter += many
		code = code<<1 | int(r.b[at/byteSize]>>(at%byteSize)&1)
		at++
	}
	if e == api.OK {
		r.at = at
	}
	return symbol, e
}

// Byte goes on to the next whole byte.
func (r *Reader) Byte() {
	if r != nil {
		r.at += r.Left() % byteSize
	}
}

// Left tells how many bits are left.
func (r *Reader) Left() int {
	if r == nil {
		return 0
	}
	return len(r.b)*byteSize - r.at
}
