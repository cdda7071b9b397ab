package md5

import (
	"iter"
	"math/bits"
)

// blockSize is how many bytes the words are turned by at a time.
const blockSize = 64

// sizeAt is where the number of bits stands in the last block.
const sizeAt = 56

// addends has what is added at each step: the whole part of 2^32 times the size of the sine of the step's number, from 1 on.
var addends = [64]uint32{
	0xd76aa478, 0xe8c7b756, 0x242070db, 0xc1bdceee, 0xf57c0faf, 0x4787c62a, 0xa8304613, 0xfd469501,
	0x698098d8, 0x8b44f7af, 0xffff5bb1, 0x895cd7be, 0x6b901122, 0xfd987193, 0xa679438e, 0x49b40821,
	0xf61e2562, 0xc040b340, 0x265e5a51, 0xe9b6c7aa, 0xd62f105d, 0x02441453, 0xd8a1e681, 0xe7d3fbc8,
	0x21e1cde6, 0xc33707d6, 0xf4d50d87, 0x455a14ed, 0xa9e3e905, 0xfcefa3f8, 0x676f02d9, 0x8d2a4c8a,
	0xfffa3942, 0x8771f681, 0x6d9d6122, 0xfde5380c, 0xa4beea44, 0x4bdecfa9, 0xf6bb4b60, 0xbebfbc70,
	0x289b7ec6, 0xeaa127fa, 0xd4ef3085, 0x04881d05, 0xd9d4d039, 0xe6db99e5, 0x1fa27cf8, 0xc4ac5665,
	0xf4292244, 0x432aff97, 0xab9423a7, 0xfc93a039, 0x655b59c3, 0x8f0ccc92, 0xffeff47d, 0x85845dd1,
	0x6fa87e4f, 0xfe2ce6e0, 0xa3014314, 0x4e0811a1, 0xf7537e82, 0xbd3af235, 0x2ad7d2bb, 0xeb86d391,
}

// turns has by how many bits the steps turn left: a row for sixteen steps, which go through it four times.
var turns = [4][4]int{{7, 12, 17, 22}, {5, 9, 14, 20}, {4, 11, 16, 23}, {6, 10, 15, 21}}

// words are the four words of a digest.
type words [4]uint32

// begin answers the words behind no bytes.
func begin() words {
	return words{0x67452301, 0xefcdab89, 0x98badcfe, 0x10325476}
}

// turn makes of the words those behind one block more.
func (w *words) turn(x [16]uint32) {
	a, b, c, d := w[0], w[1], w[2], w[3]
steps:
	for i := 0; ; i++ {
		var f uint32
		var g int
		switch i / 16 {
		case 0:
			f, g = b&c|^b&d, i
		case 1:
			f, g = d&b|^d&c, 5*i+1
		case 2:
			f, g = b^c^d, 3*i+5
		case 3:
			f, g = c^(b|^d), 7*i
		default:
			break steps
		}
		t := a + f + addends[i] + x[g%16]
		a, b, c, d = d, b+bits.RotateLeft32(t, turns[i/16][i%4]), b, c
	}
	w[0] += a
	w[1] += b
	w[2] += c
	w[3] += d
}

// end answers the digest of size bytes, the last of which, rest, made no whole block.
func (w words) end(rest []byte, size uint64) [16]byte {
	last := append([]byte{}, rest...)
	last = append(last, 0x80)
	for len(last)%blockSize != sizeAt {
		last = append(last, 0)
	}
	for i := range 8 {
		last = append(last, byte(8*size>>(8*i)))
	}
	for x := range blocks(last) {
		w.turn(x)
	}
	return w.bytes()
}

// bytes writes the words, the lowest byte first.
func (w words) bytes() [16]byte {
	var out [16]byte
	for i := range out {
		out[i] = byte(w[i/4] >> (8 * (i % 4)))
	}
	return out
}

// blocks tells each whole block of b, as sixteen words.
func blocks(b []byte) iter.Seq[[16]uint32] {
	return func(yield func([16]uint32) bool) {
		for b := b; len(b) >= blockSize; b = b[blockSize:] {
			var x [16]uint32
			for i, c := range b[:blockSize] {
				x[i/4] |= uint32(c) << (8 * (i % 4))
			}
			if !yield(x) {
				return
			}
		}
	}
}

// whole tells how many of n bytes stand in whole blocks.
func whole(n int) int {
	return n - n%blockSize
}
