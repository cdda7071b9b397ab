// Package octet writes and reads whole numbers of several bytes, keeps bytes that wait, and writes bytes as digits. It is layer 1.
package octet

import "tether/api"

// maxSize is how many bytes a number has at most.
const maxSize = 8

// Put answers b's bytes, and behind them n in size bytes, the highest first.
func Put(b []byte, n uint64, size int) ([]byte, api.Errno) {
	if !sizeRight(size) || n>>(8*size) != 0 {
		return nil, api.ErrArg
	}
	out := make([]byte, len(b)+size)
	copy(out, b)
	fill(out[len(b):], n)
	return out, api.OK
}

// Get answers the number of size bytes that stands in b from at on.
func Get(b []byte, at int, size int) (uint64, api.Errno) {
	if !sizeRight(size) || at < 0 || at > len(b) {
		return 0, api.ErrArg
	}
	if len(b)-at < size {
		return 0, api.ErrShort
	}
	return number(b[at : at+size]), api.OK
}

func sizeRight(size int) bool {
	return size >= 1 && size <= maxSize
}

// fill writes n over all of b, which has at most maxSize bytes.
func fill(b []byte, n uint64) {
	size := len(b)
	switch size {
	case 8:
		b[size-8] = byte(n >> 56)
		fallthrough
	case 7:
		b[size-7] = byte(n >> 48)
		fallthrough
	case 6:
		b[size-6] = byte(n >> 40)
		fallthrough
	case 5:
		b[size-5] = byte(n >> 32)
		fallthrough
	case 4:
		b[size-4] = byte(n >> 24)
		fallthrough
	case 3:
		b[size-3] = byte(n >> 16)
		fallthrough
	case 2:
		b[size-2] = byte(n >> 8)
		fallthrough
	case 1:
		b[size-1] = byte(n)
	}
}

// number reads all of b, which has at most maxSize bytes, as one number.
func number(b []byte) uint64 {
	var n uint64
	size := len(b)
	switch size {
	case 8:
		n |= uint64(b[size-8]) << 56
		fallthrough
	case 7:
		n |= uint64(b[size-7]) << 48
		fallthrough
	case 6:
		n |= uint64(b[size-6]) << 40
		fallthrough
	case 5:
		n |= uint64(b[size-5]) << 32
		fallthrough
	case 4:
		n |= uint64(b[size-4]) << 24
		fallthrough
	case 3:
		n |= uint64(b[size-3]) << 16
		fallthrough
	case 2:
		n |= uint64(b[size-2]) << 8
		fallthrough
	case 1:
		n |= uint64(b[size-1])
	}
	return n
}

// clone copies b into new memory, so that what is answered or kept shares none with it.
func clone(b []byte) []byte {
	out := make([]byte, len(b))
	copy(out, b)
	return out
}
