package filter

import (
	"math"
	"strings"

	"tether/sight"
)

// The words, and what can stand in place of some.
const (
	protoWord = "proto"
	hostWord  = "host"
	netWord   = "net"
	portWord  = "port"
	lessWord  = "less"
	moreWord  = "greater"
	srcWord   = "src"
	dstWord   = "dst"
	notWord   = "not"
	andWord   = "and"
	orWord    = "or"
	notSign   = "!"
	andSign   = "&&"
	orSign    = "||"
	opens     = "("
	closes    = ")"
)

// protoWords are the words of versions, and of protocols.
var protoWords = [...]struct {
	word string
	n    int64
}{
	{"ip", 4},
	{"ip6", 6},
	{"icmp", sight.Protocols + 1},
	{"tcp", sight.Protocols + 6},
	{"udp", sight.Protocols + 17},
}

// The greatest numbers.
const (
	mostProto = math.MaxUint8
	mostPort  = math.MaxUint16
	mostSize  = math.MaxUint16
)

// mostDigits is how many digits a number has at most.
const mostDigits = 5

// proto answers the version or the protocol that has a word of its own.
func proto(word string) (int64, bool) {
	for _, w := range protoWords {
		if w.word == word {
			return w.n, true
		}
	}
	return 0, false
}

// isKnown tells whether a word or a sign has a place in an expression by itself.
func isKnown(token string) bool {
	switch token {
	case protoWord, hostWord, netWord, portWord, lessWord, moreWord, srcWord, dstWord,
		notWord, andWord, orWord, notSign, andSign, orSign, opens, closes:
		return true
	}
	_, known := proto(token)
	return known || isDigits(token)
}

func isDigits(s string) bool {
	for i := range len(s) {
		if !isDigit(s[i]) {
			return false
		}
	}
	return true
}

func isDigit(c byte) bool {
	return c >= '0' && c <= '9'
}

// isWordByte tells whether c can stand in a word.
func isWordByte(c byte) bool {
	small := c | 0x20 // a capital as a small letter, and nothing else as one
	return isDigit(c) || small >= 'a' && small <= 'z' || c == '.' || c == '/'
}

// wordSize answers how many bytes the word has that s begins with.
func wordSize(s string) int {
	size := 0
word:
	for size < len(s) {
		switch {
		case isWordByte(s[size]):
			size++
		default:
			break word
		}
	}
	return size
}

// number reads a number of at most that size.
func number(s string, most int64) (int64, bool) {
	if s == "" || len(s) > mostDigits || !isDigits(s) || s[0] == '0' && s != "0" {
		return 0, false
	}
	var n int64
	for i := range len(s) {
		n = n*10 + int64(s[i]-'0')
	}
	return n, n <= most
}

// addr reads an address.
func addr(s string) (int64, bool) {
	groups := strings.Split(s, ".")
	if len(groups) != 4 {
		return 0, false
	}
	var all int64
	for _, g := range groups {
		n, ok := number(g, math.MaxUint8)
		if !ok {
			return 0, false
		}
		all = all<<8 | n
	}
	return all, true
}

// net reads an address and how many of its first bits count.
func net(s string) (int64, int, bool) {
	ahead, behind, _ := strings.Cut(s, "/")
	n, right := addr(ahead)
	size, ok := number(behind, sight.AddrBits)
	return n, int(size), right && ok
}
