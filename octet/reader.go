package octet

import "tether/api"

// Reader holds bytes that are read one behind the other, until the first error.
type Reader struct {
	left []byte
	err  api.Errno
}

// NewReader answers a reader at the beginning of a copy of b.
func NewReader(b []byte) *Reader {
	return &Reader{left: clone(b)}
}

// Num reads the next number, of size bytes.
func (r *Reader) Num(size int) uint64 {
	return number(r.next(size, sizeRight(size)))
}

// Take reads the next n bytes.
func (r *Reader) Take(n int) []byte {
	return clone(r.next(n, n >= 0))
}

// Rest reads all bytes that are left.
func (r *Reader) Rest() []byte {
	return r.Take(r.Left())
}

// Left tells how many bytes are left.
func (r *Reader) Left() int {
	if r == nil {
		return 0
	}
	return len(r.left)
}

// Err tells the first error.
func (r *Reader) Err() api.Errno {
	if r == nil {
		return api.ErrNil
	}
	return r.err
}

// next passes over n bytes and answers them, or none where that is an error; right tells whether n is a number that may be asked for.
func (r *Reader) next(n int, right bool) []byte {
	if r.Err() != api.OK {
		return nil
	}
	if !right {
		return r.fail(api.ErrArg)
	}
	if n > len(r.left) {
		return r.fail(api.ErrShort)
	}
	b := r.left[:n]
	r.left = r.left[n:]
	return b
}

// fail keeps the first error; what was left can be read no more, so it goes.
func (r *Reader) fail(e api.Errno) []byte {
	r.err = e
	r.left = nil
	return nil
}
