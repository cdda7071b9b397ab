package conf

import (
	"math"
	"strconv"

	"tether/api"
	"tether/spell"
)

// quotedLine writes a line of a word and a text; of a text that can not be quoted nothing is to be written.
func quotedLine(word, value string) []string {
	q, _ := Quote(value)
	return []string{word + " " + q}
}

func name(word string, at *string) part {
	right := func() bool { return spell.Name(*at) }
	return part{
		word:  word,
		right: right,
		lines: func() []string { return quotedLine(word, *at) },
		options: []option{valued(word, func(value string) bool {
			*at = value
			return right()
		})},
	}
}

// orEmpty is a part that may be left out, but not set so.
func orEmpty(p part, at *string) part {
	some := p.right
	p.right = func() bool { return *at == "" || some() }
	return p
}

func text(word string, at *string) part {
	return part{
		word:  word,
		right: func() bool { return len(*at) <= api.MaxLine },
		lines: func() []string { return quotedLine(word, *at) },
		options: []option{valued(word, func(value string) bool {
			*at = value
			return true
		})},
	}
}

func number(word string, at *int, least, most int) part {
	return part{
		word:  word,
		right: func() bool { return *at >= least && *at <= most },
		lines: func() []string { return []string{word + " " + strconv.Itoa(*at)} },
		options: []option{valued(word, func(value string) bool {
			n, ok := whole(value)
			*at = int(n)
			return ok && n >= int64(least) && n <= int64(most)
		})},
	}
}

// orNone is a part that may be zero, by a word of its own alone.
func orNone[T comparable](p part, at *T) part {
	var none T
	some, lines, no := p.right, p.lines, "no"+p.word
	p.right = func() bool { return *at == none || some() }
	p.lines = func() []string {
		if *at == none {
			return []string{no}
		}
		return lines()
	}
	p.options = append(p.options, fixed(no, at, none))
	return p
}

func span(word string, at *int64, least int64) part {
	right := func() bool { return *at >= least && *at <= api.MaxSpan }
	return part{
		word:  word,
		right: right,
		lines: func() []string { return []string{word + " " + strconv.FormatInt(*at, 10) + "ms"} },
		options: []option{valued(word, func(value string) bool {
			n, ok := milliseconds(value)
			*at = n
			return ok && right()
		})},
	}
}

// flag is set by a word, and unset by another one.
func flag(word string, at *bool) part {
	return orNone(raised(word, at), at)
}

// raised is set by a word, and unset by none.
func raised(word string, at *bool) part {
	return part{
		word:  word,
		right: func() bool { return true },
		lines: func() []string {
			if *at {
				return []string{word}
			}
			return nil
		},
		options: []option{fixed(word, at, true)},
	}
}

func charMap(word string, at *int64) part {
	return part{
		word:  word,
		right: func() bool { return *at >= 0 && *at <= math.MaxUint32 },
		lines: func() []string { return []string{word + " " + hexOf(uint64(*at), 8)} },
		options: []option{valued(word, func(value string) bool {
			n, err := strconv.ParseUint(value, 16, 32)
			*at = int64(n)
			return err == nil && len(value) <= 8
		})},
	}
}
