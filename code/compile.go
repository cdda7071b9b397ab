package code

import (
	"tether/api"
	"tether/filter"
)

// Compile answers a program that tells what l tells: its tests, in their order, and both ends.
func Compile(l []filter.Node) ([]Ins, api.Errno) {
	if e := filter.Right(l); e != api.OK {
		return nil, e
	}
	c := compiler{nodes: l, tests: tests(l)}
	root := len(l) - 1
	told := c.tests[root]
	c.out = make([]Ins, told, told+2)
	c.put(root, 0, told, told+1)
	return append(c.out, Ins{Op: Ret, N: 1}, Ins{Op: Ret, N: 0}), api.OK
}

// compiler makes a program of nodes.
type compiler struct {
	nodes []filter.Node
	tests []int // how many tests each node is made of
	out   []Ins
}

// tests answers how many tests each node is made of.
func tests(l []filter.Node) []int {
	out := make([]int, len(l))
	for i, n := range l {
		switch n.Kind {
		case filter.Not, filter.Paren:
			out[i] = out[n.A]
		case filter.And, filter.Or:
			out[i] = out[n.A] + out[n.B]
		default:
			out[i] = 1
		}
	}
	return out
}

// put puts the tests of the node i at a place, from which the ways lead to yes if it tells, to no if it does not.
func (c *compiler) put(i, at, yes, no int) {
	n := c.nodes[i]
	switch n.Kind {
	case filter.Not:
		c.put(n.A, at, no, yes)
	case filter.Paren:
		c.put(n.A, at, yes, no)
	case filter.And:
		second := at + c.tests[n.A]
		c.put(n.A, at, second, no)
		c.put(n.B, second, yes, no)
	case filter.Or:
		second := at + c.tests[n.A]
		c.put(n.A, at, yes, second)
		c.put(n.B, second, yes, no)
	default:
		c.out[at] = Ins{Op: Test, Kind: n.Kind, Dir: n.Dir, N: n.N, Len: n.Len, T: yes - at - 1, F: no - at - 1}
	}
}
