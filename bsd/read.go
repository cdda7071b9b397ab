package bsd

import (
	"slices"

	"tether/api"
)

// reading: codes that are read. The strings that they make stand beside the dictionary, which stays as it is.
type reading struct {
	d    *Dict
	made []pair
	open bool // does the last one made wait for its last byte?
	out  []byte
}

// read answers the bytes of codes, as far as there are bits for the next one.
func (d *Dict) read(b []byte) ([]byte, api.Errno) {
	r := reading{d: d}
	bits, left := uint32(0), 0
codes:
	for {
		n := width(r.top())
		for left < n {
			if len(b) == 0 {
				break codes
			}
			bits = bits<<8 | uint32(b[0])
			left += 8
			b = b[1:]
		}
		left -= n
		if e := r.take(int(bits >> left & (1<<n - 1))); e != api.OK {
			return nil, e
		}
	}
	return r.out, api.OK
}

// top answers the code of the last string.
func (r *reading) top() int {
	return r.d.top() + len(r.made)
}

// take tells the string of the next code, and opens the one that it makes.
func (r *reading) take(code int) api.Errno {
	if code == clearCode || code > r.top() {
		return api.ErrData
	}
	if r.open {
		r.made[len(r.made)-1].last = r.first(code)
	}
	r.tell(code)
	if len(r.out) > api.MaxMru {
		return api.ErrSize
	}
	r.open = !r.d.full(r.top())
	if r.open {
		r.made = append(r.made, pair{ahead: uint16(code)})
	}
	return api.OK
}

// pair answers the string of a code above clearCode.
func (r *reading) pair(code int) pair {
	if n := code - r.d.top() - 1; n >= 0 {
		return r.made[n]
	}
	return r.d.pairs[code-clearCode-1]
}

// first answers the first byte of a code's string, which does not hang on its last one: it is there when the string is still open.
func (r *reading) first(code int) byte {
	for code > clearCode {
		code = int(r.pair(code).ahead)
	}
	return byte(code)
}

// tell puts the bytes of a code's string behind what is told.
func (r *reading) tell(code int) {
	begin := len(r.out)
	for code > clearCode {
		p := r.pair(code)
		r.out = append(r.out, p.last)
		code = int(p.ahead)
	}
	r.out = append(r.out, byte(code))
	slices.Reverse(r.out[begin:])
}
