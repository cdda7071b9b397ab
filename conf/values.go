package conf

import (
	"math"
	"strconv"
	"strings"

	"tether/api"
	"tether/spell"
)

// maxDigits is how many digits a number has at most.
const maxDigits = 10

// Addr answers an address as text.
func Addr(n int64) (string, api.Errno) {
	return spell.AddrText(n)
}

// Ip reads an address; its numbers may have zeros ahead.
func Ip(s string) (int64, api.Errno) {
	return spell.Addr(s)
}

// Ident answers an interface identifier as text.
func Ident(n uint64) string {
	hex := hexOf(n, 16)
	return hex[:4] + ":" + hex[4:8] + ":" + hex[8:12] + ":" + hex[12:]
}

// Id reads an interface identifier.
func Id(s string) (uint64, api.Errno) {
	return spell.Four(s, ":", 16, 4, 16)
}

// hexOf writes n in at least so many digits.
func hexOf(n uint64, digits int) string {
	s := strconv.FormatUint(n, 16)
	return strings.Repeat("0", max(0, digits-len(s))) + s
}

// whole reads a decimal number.
func whole(s string) (int64, bool) {
	n, err := strconv.ParseUint(s, 10, 63)
	return int64(n), err == nil && len(s) <= maxDigits
}

// milliseconds reads a span.
func milliseconds(s string) (int64, bool) {
	number, short := strings.CutSuffix(s, "ms")
	unit := int64(1)
	if !short {
		number = strings.TrimSuffix(s, "s")
		unit = 1000
	}
	n, ok := whole(number)
	if !ok {
		return 0, false
	}
	return n * unit, true
}

func addrRight(n int64) bool {
	return n >= 0 && n <= math.MaxUint32
}
