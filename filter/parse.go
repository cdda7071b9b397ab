package filter

import (
	"strings"

	"tether/api"
)

// blanks part words.
const blanks = " \t"

// Parse answers the nodes of the expression s, or what is wrong of it, and where.
func Parse(s string) ([]Node, api.Errno, int) {
	if len(s) > api.MaxLine {
		return nil, api.ErrSize, 0
	}
	r := reader{left: s}
	if e := r.whole(); e != api.OK {
		return nil, e, len(s) - len(r.left)
	}
	if len(r.nodes) > MaxNodes || len(text(r.nodes)) > api.MaxLine {
		return nil, api.ErrFull, 0
	}
	return r.nodes, api.OK, 0
}

// reader reads an expression from the left; what it finds wrong is so of the token that comes next.
type reader struct {
	left  string // from the next token on
	token string // that one; none at the end
	open  int    // how many parentheses and nots are
	nodes []Node
}

// next passes the token.
func (r *reader) next() {
	r.left = strings.TrimLeft(r.left[len(r.token):], blanks)
	r.token = r.left[:tokenSize(r.left)]
}

// tokenSize answers how many bytes the word or the sign has that s begins with.
func tokenSize(s string) int {
	switch {
	case s == "":
		return 0
	case strings.HasPrefix(s, andSign):
		return len(andSign)
	case strings.HasPrefix(s, orSign):
		return len(orSign)
	}
	return max(wordSize(s), 1)
}

// put puts a node behind its parts, and answers which one it is.
func (r *reader) put(n Node) int {
	r.nodes = append(r.nodes, n)
	return len(r.nodes) - 1
}

// whole reads an expression that nothing stands behind.
func (r *reader) whole() api.Errno {
	r.next()
	_, e := r.oneOf()
	if e == api.OK && r.token != "" {
		return r.misplaced()
	}
	return e
}

// misplaced answers what is wrong of a token that can not stand where it does.
func (r *reader) misplaced() api.Errno {
	if isKnown(r.token) {
		return api.ErrExpr
	}
	return api.ErrToken
}

// oneOf reads what binds weakest: parts with an or between.
func (r *reader) oneOf() (int, api.Errno) {
	return r.chain(Or, orWord, orSign, (*reader).both)
}

// both reads parts with an and between.
func (r *reader) both() (int, api.Errno) {
	return r.chain(And, andWord, andSign, (*reader).single)
}

// chain reads parts with a word or a sign between; they go to the left.
func (r *reader) chain(kind int, word, sign string, part func(*reader) (int, api.Errno)) (int, api.Errno) {
	a, e := part(r)
	for e == api.OK && (r.token == word || r.token == sign) {
		r.next()
		var b int
		b, e = part(r)
		a = r.put(Node{Kind: kind, A: a, B: b})
	}
	return a, e
}

// single reads a test, what one is not, or what stands in parentheses.
func (r *reader) single() (int, api.Errno) {
	switch r.token {
	case notWord, notSign:
		return r.within(Not, (*reader).single)
	case opens:
		return r.within(Paren, (*reader).closed)
	}
	n, e := r.test()
	if e != api.OK {
		return 0, e
	}
	return r.put(n), api.OK
}

// within reads what the token opens.
func (r *reader) within(kind int, part func(*reader) (int, api.Errno)) (int, api.Errno) {
	if r.open == api.MaxNest {
		return 0, api.ErrDeep
	}
	r.next()
	r.open++
	a, e := part(r)
	r.open--
	if e != api.OK {
		return 0, e
	}
	return r.put(Node{Kind: kind, A: a}), api.OK
}

// closed reads an expression, and what closes it.
func (r *reader) closed() (int, api.Errno) {
	a, e := r.oneOf()
	if e != api.OK {
		return 0, e
	}
	if r.token != closes {
		return 0, r.misplaced()
	}
	r.next()
	return a, api.OK
}
