package hdlc

const (
	flagByte   = 0x7e
	escapeByte = 0x7d
	turn       = 0x20 // the bit that is turned in an escaped byte
)

// allNamed is the map that names each byte below 32.
const allNamed = 1<<32 - 1

// kind is what a byte means on a line.
type kind byte

const (
	plain  kind = iota
	named       // below 32, and the map names it
	escape      // the next byte has a bit turned
	flag        // a frame ends, or begins
)

// kindsOf tells of each byte what it means where that map holds.
func kindsOf(accm int64) [256]kind {
	var kinds [256]kind
	for i := range 32 {
		if accm>>i&1 == 1 {
			kinds[i] = named
		}
	}
	kinds[escapeByte] = escape
	kinds[flagByte] = flag
	return kinds
}

func mapRight(accm int64) bool {
	return accm >= 0 && accm <= allNamed
}
