package fcs

import "tether/api"

// field is a register's arithmetic: a register is a polynomial over the bits modulo the one of its sum, with the power 0 at the highest bit, so that a shift by one bit is a product with x.
type field struct {
	one uint32 // the polynomial 1
	mod uint32 // what is turned when a bit goes out
}

// Join16 answers the sum of any bytes whose sum is a, and behind them any n bytes whose sum is b.
func Join16(a, b uint16, n int64) (uint16, api.Errno) {
	if n < 0 {
		return 0, api.ErrArg
	}
	f := field{one: 1 << 15, mod: 0x8408}
	return uint16(f.zeros(uint32(a), n)) ^ b, api.OK
}

// Join32 answers the sum of any bytes whose sum is a, and behind them any n bytes whose sum is b.
func Join32(a, b uint32, n int64) (uint32, api.Errno) {
	if n < 0 {
		return 0, api.ErrArg
	}
	f := field{one: 1 << 31, mod: 0xedb88320}
	return f.zeros(a, n) ^ b, api.OK
}

// zeros answers the register r behind n bytes 0. A byte 0 is a product with x^8; it is squared once for each of n's digits, so that the time hangs on their number alone.
func (f field) zeros(r uint32, n int64) uint32 {
	power := f.one >> 8
	for ; n > 0; n >>= 1 {
		if n&1 == 1 {
			r = f.times(r, power)
		}
		power = f.times(power, power)
	}
	return r
}

// times answers the product of a and b.
func (f field) times(a, b uint32) uint32 {
	var out uint32
	for bit := f.one; bit != 0; bit >>= 1 {
		if a&bit != 0 {
			out ^= b
		}
		b = f.shift(b)
	}
	return out
}

// shift answers the product of r and x.
func (f field) shift(r uint32) uint32 {
	if r&1 == 0 {
		return r >> 1
	}
	return r>>1 ^ f.mod
}
