package huff

import "tether/api"

// Table: codes that are read and written.
type Table struct {
	codes   []Code // by symbol
	counts  counts
	firsts  [maxLength + 1]int // the first code of each length
	share   int                // of all rows of maxLength bits, how many begin with a code: they are the first ones
	symbols []int              // in the order of their codes
}

// New answers the table of lengths.
func New(lengths []int) (*Table, api.Errno) {
	c, e := counted(lengths)
	if e != api.OK {
		return nil, e
	}
	t := &Table{codes: coded(lengths, c), counts: c, firsts: c.firsts(), share: c.share()}
	for n := 1; n <= maxLength; n++ {
		for symbol, length := range lengths {
			if length == n {
				t.symbols = append(t.symbols, symbol)
			}
		}
	}
	return t, api.OK
}

// code answers a symbol's code; of no bits, if it has none.
func (t *Table) code(symbol int) Code {
	if symbol < 0 || symbol >= len(t.codes) {
		return Code{}
	}
	return t.codes[symbol]
}
