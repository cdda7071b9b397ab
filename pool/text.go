package pool

import (
	"strings"

	"tether/api"
	"tether/spell"
)

const (
	comma  = ","
	dash   = "-"
	blanks = " \t"
)

// Parse reads a text of addresses; behind an error stands the number of the part at fault.
func Parse(s string) ([]int64, api.Errno, int) {
	if len(s) > api.MaxText {
		return nil, api.ErrSize, 0
	}
	var out []int64
	met := meeting()
	at := 0
	for part := range strings.SplitSeq(s, comma) {
		first, final, e := ends(part)
		if e != api.OK {
			return nil, e, at
		}
		if int64(len(out))+final-first >= api.MaxPool {
			return nil, api.ErrFull, at
		}
		for n := first; n <= final; n++ {
			if met(n) {
				return nil, api.ErrTwice, at
			}
			out = append(out, n)
		}
		at++
	}
	return out, api.OK, 0
}

// ends reads a part: the first and the last address of those that it has.
func ends(part string) (first, final int64, e api.Errno) {
	from, to, two := strings.Cut(part, dash)
	first, e = read(from)
	if e != api.OK || !two {
		return first, first, e
	}
	final, e = read(to)
	if e == api.OK && final < first {
		e = api.ErrAddr
	}
	return first, final, e
}

// read reads an address that may be lent, with blanks about it.
func read(s string) (int64, api.Errno) {
	s = strings.Trim(s, blanks)
	n, e := spell.Addr(s)
	if e != api.OK || !lendable(n) || text(n) != s { // spell bears zeros ahead, which a text of addresses does not
		return 0, api.ErrAddr
	}
	return n, api.OK
}

// Print writes addresses as a text of them.
func Print(l []int64) (string, api.Errno) {
	if e := fault(l); e != api.OK {
		return "", e
	}
	var parts []string
	for len(l) > 0 {
		n := rising(l)
		part := text(l[0])
		if n > 1 {
			part += dash + text(l[n-1])
		}
		parts = append(parts, part)
		l = l[n:]
	}
	return strings.Join(parts, comma+" "), api.OK
}

// rising answers how many addresses stand one above the other at the beginning of l.
func rising(l []int64) int {
	n := 1
	for n < len(l) && l[n] == l[n-1]+1 {
		n++
	}
	return n
}

// text writes an address that may be lent.
func text(n int64) string {
	s, _ := spell.AddrText(n)
	return s
}
