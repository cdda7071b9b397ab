package inflate

import (
	"math"

	"tether/huff"
)

// Stored answers stored blocks of b, each as long as can be.
func Stored(b []byte, last bool) []byte {
	var out []byte
	for {
		n := min(len(b), math.MaxUint16)
		head := byte(0)
		if last && n == len(b) {
			head = 1
		}
		out = append(out, head, byte(n), byte(n>>8), ^byte(n), ^byte(n>>8))
		out = append(out, b[:n]...)
		b = b[n:]
		if len(b) == 0 {
			return out
		}
	}
}

// Fixed answers a fixed block of b's bytes.
func Fixed(b []byte, last bool) []byte {
	w := newBlock(last)
	for _, c := range b {
		w.literal(c)
	}
	w.end()
	return w.bytes()
}

// Deflate answers data that say b, behind history.
func Deflate(b, history []byte) []byte {
	f := &finder{window: window{size: windowSize}}
	f.take(history[max(len(history)-windowSize, 0):])
	w := newBlock(true)
	w.tokens(f, b)
	w.end()
	return fewer(w.bytes(), Stored(b, true))
}

// fewer answers the one that has fewer bytes, the first one of two that have as many.
func fewer(a, b []byte) []byte {
	if len(b) < len(a) {
		return b
	}
	return a
}

// writing is a fixed block that is written.
type writing struct {
	*sink
	codes
}

// newBlock begins a fixed block.
func newBlock(last bool) writing {
	w := writing{newSink(), fixedCodes()}
	head := fixed << 1
	if last {
		head |= 1
	}
	w.bits(head, headBits)
	return w
}

// literal writes a byte.
func (w writing) literal(c byte) {
	w.symbol(w.literals, int(c))
}

// tokens writes text as strings that f finds, and as bytes between them.
func (w writing) tokens(f *finder, text []byte) {
	for i := 0; i < len(text); {
		length, distance := f.find(text, i)
		if length == 0 {
			w.literal(text[i])
			i++
			continue
		}
		w.again(length, distance)
		i += length
	}
}

// again writes a length and a distance.
func (w writing) again(length, distance int) {
	if length == longest {
		w.symbol(w.literals, longestSymbol)
	} else {
		w.number(w.literals, lengthScale, length)
	}
	w.number(w.distances, distanceScale, distance)
}

// number writes a number as the scale has it.
func (w writing) number(t *huff.Table, s scale, n int) {
	symbol := s.to(n)
	least, more := s.from(symbol)
	w.symbol(t, symbol)
	w.bits(n-least, more)
}

// end writes the block's end.
func (w writing) end() {
	w.symbol(w.literals, endSymbol)
}
