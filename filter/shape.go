package filter

import "slices"

// shape is a node as what it is.
type shape interface {
	// parts answers which nodes ahead it is made of, in the order of the text.
	parts() []int
}

type (
	test    Node            // tells packets by itself
	inverse struct{ a int } // what its part does not tell
	group   struct{ a int } // its part, in parentheses
	both    struct{ a, b int }
	oneOf   struct{ a, b int }
)

func (test) parts() []int      { return nil }
func (x inverse) parts() []int { return []int{x.a} }
func (x group) parts() []int   { return []int{x.a} }
func (x both) parts() []int    { return []int{x.a, x.b} }
func (x oneOf) parts() []int   { return []int{x.a, x.b} }

// shapeOf answers what n is; what is nothing else is a test, which may be none.
func shapeOf(n Node) shape {
	switch n.Kind {
	case Not:
		return inverse{n.A}
	case Paren:
		return group{n.A}
	case And:
		return both{n.A, n.B}
	case Or:
		return oneOf{n.A, n.B}
	}
	return test(n)
}

// isTree tells whether l is one node with its parts, each of which stands ahead just where Parse would put it. What is none may have a text without end.
func isTree(l []Node) bool {
	if len(l) > MaxNodes {
		return false
	}
	var roots []int
	for i, n := range l {
		parts := shapeOf(n).parts()
		free := len(roots) - len(parts)
		if free < 0 || !slices.Equal(roots[free:], parts) {
			return false
		}
		roots = append(roots[:free], i)
	}
	return len(roots) == 1
}
