package md5

import (
	"strconv"

	"tether/api"
)

const digits = "0123456789abcdef"

// Hex writes two digits a byte.
func Hex(b []byte) string {
	out := make([]byte, 0, 2*len(b))
	for _, c := range b {
		out = append(out, digits[c>>4], digits[c&15])
	}
	return string(out)
}

// Unhex reads what Hex writes, and digits of the other size.
func Unhex(s string) ([]byte, api.Errno) {
	if len(s)%2 != 0 {
		return nil, api.ErrForm
	}
	out := make([]byte, 0, len(s)/2)
	for ; s != ""; s = s[2:] {
		n, err := strconv.ParseUint(s[:2], 16, 8)
		if err != nil {
			return nil, api.ErrForm
		}
		out = append(out, byte(n))
	}
	return out, api.OK
}
