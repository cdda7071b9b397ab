package conf

import (
	"strings"

	"tether/api"
)

// ends stands for every word that is a local address and a remote one.
const ends = "LOCAL:REMOTE"

func addresses(local, remote *int64) part {
	return part{
		word:  "ip",
		right: func() bool { return addrRight(*local) && addrRight(*remote) },
		lines: func() []string { return []string{sideText(*local) + ":" + sideText(*remote)} },
		options: []option{{word: ends, set: func(words []string) bool {
			left, right, _ := strings.Cut(words[0], ":")
			if left == "" && right == "" {
				return false
			}
			var leftOk, rightOk bool
			*local, leftOk = side(left)
			*remote, rightOk = side(right)
			return leftOk && rightOk
		}}},
	}
}

// side reads an address that may be left out.
func side(s string) (int64, bool) {
	if s == "" {
		return 0, true
	}
	n, e := Ip(s)
	return n, e == api.OK
}

func sideText(n int64) string {
	if n == 0 {
		return ""
	}
	s, _ := Addr(n)
	return s
}

// nameServers are set one behind the other, by lines of one word.
func nameServers(word string, first, second *int64) part {
	return part{
		word: word,
		right: func() bool {
			return addrRight(*first) && addrRight(*second) && (*first != 0 || *second == 0)
		},
		lines: func() []string {
			var out []string
			for _, n := range []int64{*first, *second} {
				if n != 0 {
					out = append(out, word+" "+sideText(n))
				}
			}
			return out
		},
		options: []option{valued(word, func(value string) bool {
			at := first
			if *first != 0 {
				at = second
			}
			n, e := Ip(value)
			if e != api.OK || n == 0 || *at != 0 {
				return false
			}
			*at = n
			return true
		})},
	}
}

func identifier(is *bool, id *uint64) part {
	return part{
		word:  "ipv6id",
		right: func() bool { return *is || *id == 0 },
		lines: func() []string {
			switch {
			case *id != 0:
				return []string{"ipv6id " + Ident(*id)}
			case *is:
				return []string{"ipv6"}
			}
			return []string{"noipv6"}
		},
		options: []option{
			fixed("ipv6", is, true),
			{word: "noipv6", set: func([]string) bool {
				*is, *id = false, 0
				return true
			}},
			valued("ipv6id", func(value string) bool {
				n, e := Id(value)
				*is, *id = true, n
				return e == api.OK && n != 0
			}),
		},
	}
}
