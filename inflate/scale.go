package inflate

import "math/bits"

// scale is how numbers stand as symbols and more bits behind them: of the groups of 2^group symbols the first two have no bits more, each other one has one more than the group ahead of it.
type scale struct {
	group int
	first int // the first symbol
	least int // its number
}

// The scales of lengths, but for the longest one, and of distances.
var (
	lengthScale   = scale{group: 2, first: 257, least: 3}
	distanceScale = scale{group: 1, first: 0, least: 1}
)

// from answers a symbol's least number, and how many more bits it has.
func (s scale) from(symbol int) (least, more int) {
	symbol -= s.first
	more = max(symbol>>s.group-1, 0)
	return s.least + (symbol-more<<s.group)<<more, more
}

// to answers the symbol of a number.
func (s scale) to(n int) int {
	n -= s.least
	more := max(bits.Len(uint(n))-1-s.group, 0)
	return s.first + more<<s.group + n>>more
}
