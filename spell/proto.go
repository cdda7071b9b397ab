package spell

// Proto tells whether n is a protocol's number.
func Proto(n int) bool {
	return n > 0 && n <= 0xffff && n&0x0101 == 1
}
