// Package spell tells how names, addresses and lines of words are spelt, in files of options and of secrets alike, what a line at fault is, and which numbers are protocols'.
package spell

import (
	"strconv"
	"strings"

	"tether/api"
)

// Name tells whether s can be a name, or a secret.
func Name(s string) bool {
	if s == "" || len(s) > api.MaxName {
		return false
	}
	for i := range len(s) {
		if c := s[i]; c < 32 || c > 126 || c == '"' || c == '\\' {
			return false
		}
	}
	return true
}

// Four reads four numbers with a sign between two, each of at most so many digits and so many bits, as one number, the first one highest.
func Four(s, between string, base, digits, bits int) (uint64, api.Errno) {
	groups := strings.SplitN(s, between, 5)
	if len(groups) != 4 {
		return 0, api.ErrAddr
	}
	var all uint64
	for _, g := range groups {
		n, err := strconv.ParseUint(g, base, bits)
		if err != nil || len(g) > digits {
			return 0, api.ErrAddr
		}
		all = all<<bits | n
	}
	return all, api.OK
}

// Addr reads an address; numbers may have zeros ahead, up to three digits.
func Addr(s string) (int64, api.Errno) {
	n, e := Four(s, ".", 10, 3, 8)
	return int64(n), e
}

// AddrText writes an address, without zeros ahead.
func AddrText(n int64) (string, api.Errno) {
	if n < 0 || n > 1<<32-1 {
		return "", api.ErrAddr
	}
	var out []byte
	for shift := 24; shift >= 0; shift -= 8 {
		out = strconv.AppendInt(out, n>>shift&255, 10)
		out = append(out, '.')
	}
	return string(out[:len(out)-1]), api.OK
}
