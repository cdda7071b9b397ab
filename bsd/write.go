package bsd

// width answers how many bits a code has, where top is the last string's.
func width(top int) int {
	n := minBits
	switch {
	case top >= 1<<14:
		n++
		fallthrough
	case top >= 1<<13:
		n++
		fallthrough
	case top >= 1<<12:
		n++
		fallthrough
	case top >= 1<<11:
		n++
		fallthrough
	case top >= 1<<10:
		n++
		fallthrough
	case top >= 1<<minBits:
		n++
	}
	return n
}

// sink: codes that are written, the highest bit of each first.
type sink struct {
	out   []byte
	bits  uint32 // the lowest of them fill no byte yet
	after int    // how many do not
}

// put writes a code of n bits.
func (s *sink) put(code, n int) {
	s.bits = s.bits<<n | uint32(code)
	s.after += n
	for s.after >= 8 {
		s.after -= 8
		s.out = append(s.out, byte(s.bits>>s.after))
	}
}

// bytes answers all that is written, with bits 0 up to the next byte.
func (s *sink) bytes() []byte {
	if s.after == 0 {
		return s.out
	}
	return append(s.out, byte(s.bits<<(8-s.after)))
}

// write answers the codes of text, which has a byte at least, and makes the strings behind them.
func (d *Dict) write(text []byte) []byte {
	var s sink
	code := int(text[0])
	for _, c := range text[1:] {
		p := pair{uint16(code), c}
		if longer, ok := d.codes[p]; ok {
			code = longer
			continue
		}
		s.put(code, width(d.top()))
		d.learn(p)
		code = int(c)
	}
	s.put(code, width(d.top()))
	return s.bytes()
}
