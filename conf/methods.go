package conf

import (
	"slices"

	"tether/api"
)

// methods are the words of the methods of authentication, by their numbers; of 0 there is none.
var methods = [...]string{api.MPap: "pap", api.MChap: "chap", api.MEap: "eap"}

// method answers the number of a method's word; 0, if it is none.
func method(word string) int {
	for m, w := range methods {
		if w == word {
			return m
		}
	}
	return 0
}

func required(at *int) part {
	const none = "noauth"
	p := part{
		word:  none,
		right: func() bool { return *at >= 0 && *at < len(methods) },
		lines: func() []string {
			if *at == 0 {
				return []string{none}
			}
			return []string{"require-" + methods[*at]}
		},
		options: []option{fixed(none, at, 0)},
	}
	for m, word := range methods {
		if m != 0 {
			p.options = append(p.options, fixed("require-"+word, at, m))
		}
	}
	return p
}

func accepted(at *[]int) part {
	right := func() bool { return methodsRight(*at) }
	set := func(words []string) bool {
		var l []int
		for _, w := range words[1:] {
			l = append(l, method(w))
		}
		*at = l
		return right()
	}
	return part{
		word:  "accept",
		right: right,
		lines: func() []string {
			if len(*at) == 0 {
				return []string{"noaccept"}
			}
			line := "accept"
			for _, m := range *at {
				line += " " + methods[m]
			}
			return []string{line}
		},
		options: []option{
			{word: "accept", least: 1, most: len(methods) - 1, set: set},
			fixed("noaccept", at, nil),
		},
	}
}

// methodsRight tells whether each of l is a method, and none is there twice.
func methodsRight(l []int) bool {
	for i, m := range l {
		if m < api.MPap || m > api.MEap || slices.Contains(l[:i], m) {
			return false
		}
	}
	return true
}
