package inflate

// windowSize is how many bytes a window has at most.
const windowSize = 1 << 15

// window is what came last.
type window struct {
	cells [windowSize]byte // each byte stands at its place modulo windowSize
	size  int              // from how far back a byte may be copied
	came  int              // how many bytes came, which is the next one's place
}

// take puts b behind what came.
func (w *window) take(b []byte) {
	skip := max(len(b)-windowSize, 0)
	w.came += skip
	b = b[skip:]
	n := copy(w.cells[w.came%windowSize:], b)
	copy(w.cells[:], b[n:])
	w.came += len(b)
}

// at answers the byte at a place, out of what came or of the text behind it.
func (w *window) at(place int, text []byte) byte {
	if place >= w.came {
		return text[place-w.came]
	}
	return w.cells[place%windowSize]
}

// reaches tells whether a byte may be copied from so far back of a place.
func (w *window) reaches(place, distance int) bool {
	return distance <= min(w.size, place)
}
