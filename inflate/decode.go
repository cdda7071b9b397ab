package inflate

import (
	"math"

	"tether/api"
	"tether/huff"
)

// The kinds of blocks.
const (
	stored  = 0
	fixed   = 1
	dynamic = 2
)

// headBits is how many bits a block begins with: whether it is the last one, and its kind.
const headBits = 3

// The symbols of literals: below endSymbol bytes, above it lengths.
const (
	endSymbol     = 256
	longestSymbol = 285
)

// maxDistance is the greatest symbol of distances.
const maxDistance = 29

// decoder reads data block by block.
type decoder struct {
	in    source
	past  *window // what stands ahead of all that is told
	out   []byte
	most  int   // how many bytes may be told
	known codes // those of fixed blocks, once one has been met
}

func newDecoder(b []byte, past *window, most int) *decoder {
	return &decoder{in: newSource(b), past: past, most: most}
}

// all reads blocks up to the last one's end.
func (d *decoder) all() api.Errno {
block:
	last, _, e := d.block()
	if e == api.OK && !last {
		goto block
	}
	return e
}

// packet reads blocks up to the data's end, which an empty stored one must be.
func (d *decoder) packet() api.Errno {
block:
	last, empty, e := d.block()
	switch {
	case e != api.OK || last:
		return api.ErrData
	case !empty || d.in.left() > 0:
		goto block
	}
	return api.OK
}

// block reads a block, and tells whether it is the last one, and whether it is an empty stored one.
func (d *decoder) block() (last, empty bool, e api.Errno) {
	head, e := d.in.bits(headBits)
	if e != api.OK {
		return false, false, e
	}
	switch head >> 1 {
	case stored:
		empty, e = d.stored()
	case fixed:
		if d.known.literals == nil {
			d.known = fixedCodes()
		}
		e = d.symbols(d.known)
	case dynamic:
		var c codes
		if c, e = d.codes(); e == api.OK {
			e = d.symbols(c)
		}
	default:
		e = api.ErrData
	}
	return head&1 == 1, empty, e
}

// stored reads a stored block, and tells whether it is empty.
func (d *decoder) stored() (bool, api.Errno) {
	d.in.whole()
	n, _ := d.in.bits(16)
	turned, e := d.in.bits(16)
	switch {
	case e != api.OK:
		return false, e
	case n^turned != math.MaxUint16:
		return false, api.ErrData
	case d.in.left() < n*8:
		return false, api.ErrShort
	case n > d.most-len(d.out):
		return false, api.ErrSize
	}
	for range n {
		c, _ := d.in.bits(8)
		d.out = append(d.out, byte(c))
	}
	return n == 0, api.OK
}

// symbols reads what stands in those codes, up to the block's end.
func (d *decoder) symbols(c codes) api.Errno {
symbols:
	for {
		symbol, e := d.in.symbol(c.literals)
		switch {
		case e != api.OK:
			return e
		case symbol == endSymbol:
			break symbols
		case symbol < endSymbol:
			e = d.tell(byte(symbol))
		default:
			e = d.again(symbol, c.distances)
		}
		if e != api.OK {
			return e
		}
	}
	return api.OK
}

// tell puts a byte behind what is told.
func (d *decoder) tell(c byte) api.Errno {
	if len(d.out) >= d.most {
		return api.ErrSize
	}
	d.out = append(d.out, c)
	return api.OK
}

// again reads what stands behind a length's symbol, and tells the bytes that it says.
func (d *decoder) again(symbol int, distances *huff.Table) api.Errno {
	length, e := d.length(symbol)
	if e != api.OK {
		return e
	}
	distance, e := d.distance(distances)
	if e != api.OK {
		return e
	}
	place := d.past.came + len(d.out)
	if !d.past.reaches(place, distance) {
		return api.ErrData
	}
	for i := range length {
		if e := d.tell(d.past.at(place+i-distance, d.out)); e != api.OK {
			return e
		}
	}
	return api.OK
}

// length answers a symbol's length.
func (d *decoder) length(symbol int) (int, api.Errno) {
	switch {
	case symbol > longestSymbol:
		return 0, api.ErrData
	case symbol == longestSymbol:
		return longest, api.OK
	}
	return d.number(lengthScale, symbol)
}

// distance reads a distance.
func (d *decoder) distance(t *huff.Table) (int, api.Errno) {
	symbol, e := d.in.symbol(t)
	switch {
	case e != api.OK:
		return 0, e
	case symbol > maxDistance:
		return 0, api.ErrData
	}
	return d.number(distanceScale, symbol)
}

// number answers what a symbol and the bits behind it say.
func (d *decoder) number(s scale, symbol int) (int, api.Errno) {
	least, more := s.from(symbol)
	n, e := d.in.bits(more)
	return least + n, e
}
