package chat

import "strings"

// Behind a \ a sign of letters stands for the byte of meanings at its place.
const (
	letters  = "btnrsN\\-\"'"
	meanings = "\b\t\n\r \x00\\-\"'"
)

// noCr ends what is sent without a carriage return.
const noCr = `\c`

// decode answers the bytes that raw stands for, up to the first \ that stands for none: rest begins there.
func decode(raw string) (text, rest string) {
	var b strings.Builder
	for raw != "" {
		c, n := sign(raw)
		if n == 0 {
			break
		}
		b.WriteByte(c)
		raw = raw[n:]
	}
	return b.String(), raw
}

// sign answers the byte that raw begins with, and how many bytes stand for it; 0 of them, if none can.
func sign(raw string) (byte, int) {
	if raw[0] != '\\' {
		return raw[0], 1
	}
	if len(raw) > 1 {
		if i := strings.IndexByte(letters, raw[1]); i >= 0 {
			return meanings[i], 2
		}
	}
	if len(raw) > 3 {
		if c, ok := octal(raw[1:4]); ok {
			return c, 4
		}
	}
	return 0, 0
}

// octal reads a byte's three digits.
func octal(digits string) (byte, bool) {
	n := 0
	for i := range len(digits) {
		if digits[i] < '0' || digits[i] > '7' {
			return 0, false
		}
		n = n*8 + int(digits[i]-'0')
	}
	return byte(n), n <= 0xff
}

// encode spells text as decode reads it.
func encode(text string) string {
	var b []byte
	for i := range len(text) {
		c := text[i]
		switch at := strings.IndexByte(meanings, c); {
		case at >= 0:
			b = append(b, '\\', letters[at])
		case c < 32 || c > 126:
			b = append(b, '\\', '0'+c>>6, '0'+c>>3&7, '0'+c&7)
		default:
			b = append(b, c)
		}
	}
	return string(b)
}

// parts are what stands between the signs - of an expectation.
func parts(body string) []string {
	var l []string
	begin := 0
	for i := 0; i < len(body); i++ {
		switch body[i] {
		case '\\':
			i++ // a - behind it parts nothing
		case '-':
			l = append(l, body[begin:i])
			begin = i + 1
		}
	}
	return append(l, body[begin:])
}
