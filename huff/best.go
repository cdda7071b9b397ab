package huff

import (
	"cmp"
	"slices"

	"tether/api"
)

// item is what may be taken at a length: a symbol, or a pair of what may be taken at the next greater one.
type item struct {
	weight int
	pair   bool
}

// Lengths answers the best lengths of codes for how often each symbol is there, none longer than most.
func Lengths(freq []int, most int) ([]int, api.Errno) {
	switch {
	case most < 1 || most > maxLength:
		return nil, api.ErrArg
	case len(freq) > maxSymbols:
		return nil, api.ErrFull
	case !allFreqs(freq):
		return nil, api.ErrArg
	}
	order := used(freq)
	out := make([]int, len(freq))
	switch {
	case len(order) > 1<<most:
		return nil, api.ErrSize
	case len(order) == 1:
		out[order[0]] = 1
	case len(order) > 1:
		pick(out, order, rows(freq, order, most))
	}
	return out, api.OK
}

// used answers the symbols that are there, the rarest first.
func used(freq []int) []int {
	var out []int
	for symbol, n := range freq {
		if n > 0 {
			out = append(out, symbol)
		}
	}
	slices.SortStableFunc(out, func(a, b int) int { return cmp.Compare(freq[a], freq[b]) })
	return out
}

// rows answers what may be taken at each length, from 1 on, the lightest first: two of a length make one of the next smaller one.
func rows(freq, order []int, most int) [][]item {
	out := make([][]item, most)
	var pairs []item
	for n := most - 1; n >= 0; n-- {
		out[n] = merged(freq, order, pairs)
		pairs = paired(out[n])
	}
	return out
}

// merged answers the symbols and the pairs, the lightest first.
func merged(freq, order []int, pairs []item) []item {
	out := make([]item, 0, len(order)+len(pairs))
	for _, symbol := range order {
		for len(pairs) > 0 && pairs[0].weight < freq[symbol] {
			out = append(out, pairs[0])
			pairs = pairs[1:]
		}
		out = append(out, item{weight: freq[symbol]})
	}
	return append(out, pairs...)
}

// paired answers l's items two by two; an odd one is left.
func paired(l []item) []item {
	out := make([]item, 0, len(l)/2)
	for i := 1; i < len(l); i += 2 {
		out = append(out, item{weight: l[i-1].weight + l[i].weight, pair: true})
	}
	return out
}

// pick takes what is lightest, and makes a symbol's code one bit longer for each time that it is among that.
func pick(lengths, order []int, rows [][]item) {
	take := 2*len(order) - 2 // so many at the length 1 make a whole code
	for _, row := range rows {
		pairs := 0
		for _, one := range row[:take] {
			if one.pair {
				pairs++
			}
		}
		for _, symbol := range order[:take-pairs] {
			lengths[symbol]++
		}
		take = 2 * pairs
	}
}
