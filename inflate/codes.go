package inflate

import (
	"tether/api"
	"tether/huff"
)

// How many symbols codes have.
const (
	mostLiterals  = 288
	mostDistances = 32
	rowSymbols    = 19
)

// The symbols of a row of lengths that are no lengths.
const (
	same      = 16
	zeros     = 17
	moreZeros = 18
)

// mostBehind is by how much literals can be more than 257, and distances more than 1.
const mostBehind = 29

// rowOrder is in which order the lengths stand of the code of a row.
var rowOrder = [rowSymbols]int{16, 17, 18, 0, 8, 7, 9, 6, 10, 5, 11, 4, 12, 3, 13, 2, 14, 1, 15}

// codes are those of a block's symbols.
type codes struct {
	literals  *huff.Table
	distances *huff.Table
}

// fixedCodes answers the codes of fixed blocks.
func fixedCodes() codes {
	var literals [mostLiterals]int
	for i := range literals {
		switch {
		case i < 144, i >= 280:
			literals[i] = 8
		case i < 256:
			literals[i] = 9
		default:
			literals[i] = 7
		}
	}
	var distances [mostDistances]int
	for i := range distances {
		distances[i] = 5
	}
	return tables(literals[:], distances[:])
}

// tables answers the codes of lengths that make some.
func tables(literals, distances []int) codes {
	var c codes
	c.literals, _ = huff.New(literals)
	c.distances, _ = huff.New(distances)
	return c
}

// codes reads the codes of a dynamic block.
func (d *decoder) codes() (codes, api.Errno) {
	literals, e := d.count()
	if e != api.OK {
		return codes{}, e
	}
	distances, e := d.count()
	if e != api.OK {
		return codes{}, e
	}
	literals, distances = literals+endSymbol+1, distances+1
	t, e := d.rowCode()
	if e != api.OK {
		return codes{}, e
	}
	row, e := d.row(t, literals+distances)
	switch {
	case e != api.OK:
		return codes{}, e
	case row[endSymbol] == 0, !full(row[:literals]), !full(row[literals:]) && !few(row[literals:]):
		return codes{}, api.ErrData
	}
	return tables(row[:literals], row[literals:]), api.OK
}

// count reads by how much symbols are more than the fewest.
func (d *decoder) count() (int, api.Errno) {
	n, e := d.in.bits(5)
	if n > mostBehind {
		return 0, api.ErrData
	}
	return n, e
}

// rowCode reads the code by which a row of lengths stands.
func (d *decoder) rowCode() (*huff.Table, api.Errno) {
	n, e := d.in.bits(4)
	if e != api.OK {
		return nil, e
	}
	var lengths [rowSymbols]int
	for i := range n + 4 {
		if lengths[rowOrder[i]], e = d.in.bits(3); e != api.OK {
			return nil, e
		}
	}
	if !full(lengths[:]) {
		return nil, api.ErrData
	}
	return tables(lengths[:], nil).literals, api.OK
}

// row reads a row of so many lengths.
func (d *decoder) row(t *huff.Table, size int) ([]int, api.Errno) {
	var out []int
	for len(out) < size {
		length, times, e := d.run(t, out)
		switch {
		case e != api.OK:
			return nil, e
		case times > size-len(out):
			return nil, api.ErrData
		}
		for range times {
			out = append(out, length)
		}
	}
	return out, api.OK
}

// run reads which length stands next behind a row, and how many times.
func (d *decoder) run(t *huff.Table, row []int) (length, times int, e api.Errno) {
	symbol, e := d.in.symbol(t)
	if e != api.OK {
		return 0, 0, e
	}
	least, more := 1, 0
	switch symbol {
	case same:
		if len(row) == 0 {
			return 0, 0, api.ErrData
		}
		length, least, more = row[len(row)-1], 3, 2
	case zeros:
		least, more = 3, 3
	case moreZeros:
		least, more = 11, 7
	default:
		length = symbol
	}
	n, e := d.in.bits(more)
	return length, least + n, e
}

// full tells whether each row of bits begins with just one code of those lengths.
func full(lengths []int) bool {
	whole, _ := huff.Right(lengths)
	return whole
}

// few tells whether there is no code, or one alone, of one bit.
func few(lengths []int) bool {
	sum := 0
	for _, n := range lengths {
		sum += n
	}
	return sum <= 1
}
