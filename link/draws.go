package link

const numberBits = 64 // of a drawn number

// draws is the number that was drawn last; the seed first.
type draws uint64

// next draws a number.
func (d *draws) next() uint64 {
	*d = 6364136223846793005**d + 1442695040888963407
	return uint64(*d)
}

// magic draws a magic number; 0 would be none.
func (d *draws) magic() uint32 {
	return max(uint32(d.next()>>32), 1)
}

// challenge draws a challenge: two numbers, the highest byte of each first.
func (d *draws) challenge() []byte {
	var out []byte
	for range 2 {
		n := d.next()
		for shift := numberBits - 8; shift >= 0; shift -= 8 {
			out = append(out, byte(n>>shift))
		}
	}
	return out
}
