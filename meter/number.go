package meter

import (
	"cmp"
	"math"
	"strconv"

	"tether/api"
)

// noneBits are the bits by which all that is no number is told.
const noneBits = 0x7ff8000000000001

// maxParts: an average goes on by at most so many parts.
const maxParts = 1024

// How all that are no numbers, and both infinities, are written.
const (
	noneText  = "nan"
	mostText  = "inf"
	leastText = "-inf"
)

// none answers the NaN.
func none() float64 {
	return math.Float64frombits(noneBits)
}

// told answers v as it is told: there is one NaN alone.
func told(v float64) float64 {
	if math.IsNaN(v) {
		return none()
	}
	return v
}

// Ratio answers a divided by b.
func Ratio(a, b float64) float64 {
	return told(a / b)
}

// Order answers -1, if a stands ahead of b, 1, if behind it, else 0.
func Order(a, b float64) int {
	if a == 0 && b == 0 { // Compare takes both zeros for one
		return cmp.Compare(math.Copysign(1, a), math.Copysign(1, b))
	}
	return cmp.Compare(a, b)
}

// Mean answers an average that goes on from old with v.
func Mean(old, v float64, parts int) (float64, api.Errno) {
	if parts < 1 || parts > maxParts {
		return 0, api.ErrArg
	}
	if math.IsNaN(old) {
		return told(v), api.OK
	}
	return told(old + (v-old)/float64(parts)), api.OK
}

// Best answers the first one in the order, of those that are numbers.
func Best(l ...float64) (float64, bool) {
	return numberOf(l, Order)
}

// Worst answers the last one in the order, of those that are numbers.
func Worst(l ...float64) (float64, bool) {
	return numberOf(l, func(a, b float64) int { return Order(b, a) })
}

// numberOf answers the first of those that are numbers; the NaN and false, if there are none.
func numberOf(l []float64, order func(a, b float64) int) (float64, bool) {
	v, found := first(l, isNumber, order)
	if !found {
		return none(), false
	}
	return v, true
}

func isNumber(v float64) bool {
	return !math.IsNaN(v)
}

// first answers the one of l that stands ahead of all others, of those that count, and whether there is one.
func first[T any](l []T, counts func(T) bool, order func(a, b T) int) (T, bool) {
	var ahead T
	found := false
	for _, v := range l {
		if counts(v) && (!found || order(v, ahead) < 0) {
			ahead, found = v, true
		}
	}
	return ahead, found
}

// Text answers the shortest text that is read as v.
func Text(v float64) string {
	switch {
	case math.IsNaN(v):
		return noneText
	case math.IsInf(v, 1):
		return mostText
	case math.IsInf(v, -1):
		return leastText
	}
	form := byte('e')
	if size := math.Abs(v); size == 0 || size >= 1e-6 && size < 1e21 {
		form = 'f'
	}
	return strconv.FormatFloat(v, form, -1, 64)
}

// Number answers the number whose Text s is.
func Number(s string) (float64, api.Errno) {
	v, err := strconv.ParseFloat(s, 64)
	if err != nil || Text(v) != s { // it reads other spellings too
		return 0, api.ErrForm
	}
	return told(v), api.OK
}
