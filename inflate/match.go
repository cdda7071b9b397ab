package inflate

// How many bytes are copied at least, and at most.
const (
	shortest = 3
	longest  = 258
)

// hashBits is of how many bits the hash is of a string's first bytes.
const hashBits = 12

// finder finds what stands in a window, or in the text behind it, once more.
type finder struct {
	window
	lasts [1 << hashBits]int // by hash, behind the last place where a string with it begins
	ahead [windowSize]int    // by place modulo windowSize, behind the last one of the same hash ahead of it
	known int                // the first place that stands in neither
}

// hash is that of the string at a place.
func (f *finder) hash(place int, text []byte) uint32 {
	n := uint32(f.at(place, text))<<16 | uint32(f.at(place+1, text))<<8 | uint32(f.at(place+2, text))
	return n * 0x9e3779b1 >> (32 - hashBits)
}

// learn puts the places up to one that is not learned itself where they are found.
func (f *finder) learn(upto int, text []byte) {
	for ; f.known < upto; f.known++ {
		h := f.hash(f.known, text)
		f.ahead[f.known%windowSize] = f.lasts[h]
		f.lasts[h] = f.known + 1
	}
}

// take puts b behind what came.
func (f *finder) take(b []byte) {
	f.learn(f.came+len(b)-shortest+1, b)
	f.window.take(b)
}

// find answers the longest string that begins with text's byte i, and stands in the window of that place too, and how far back it does; 0 and 0, if it is too short.
func (f *finder) find(text []byte, i int) (length, distance int) {
	most := min(longest, len(text)-i)
	if most < shortest {
		return 0, 0
	}
	here := f.came + i
	f.learn(here, text)
	length = shortest - 1
	for place := f.lasts[f.hash(here, text)] - 1; length < most && f.holds(place, here); place = f.ahead[place%windowSize] - 1 {
		if f.at(place+length, text) != f.at(here+length, text) {
			continue // it is no longer than what is found
		}
		if n := f.common(place, here, most, text); n > length {
			length, distance = n, here-place
		}
	}
	if distance == 0 {
		return 0, 0
	}
	return length, distance
}

// holds tells whether place is one, in the window of here.
func (f *finder) holds(place, here int) bool {
	return place >= 0 && f.reaches(here, here-place)
}

// common tells how many bytes, of most, are the same from two places on.
func (f *finder) common(a, b, most int, text []byte) int {
	n := 0
	for n < most && f.at(a+n, text) == f.at(b+n, text) {
		n++
	}
	return n
}
