package filter

import (
	"tether/api"
	"tether/sight"
)

// test reads a test.
func (r *reader) test() (Node, api.Errno) {
	dir := r.dir()
	switch r.token {
	case hostWord:
		return r.ofAddr(Node{Kind: Host, Dir: dir})
	case netWord:
		return r.ofNet(Node{Kind: Net, Dir: dir})
	case portWord:
		return r.ofNumber(Node{Kind: Port, Dir: dir}, mostPort)
	}
	if dir != Either {
		return Node{}, r.misplaced()
	}
	switch r.token {
	case protoWord:
		return r.ofNumber(Node{Kind: Proto, N: sight.Protocols}, mostProto)
	case lessWord:
		return r.ofNumber(Node{Kind: Less}, mostSize)
	case moreWord:
		return r.ofNumber(Node{Kind: More}, mostSize)
	}
	n, known := proto(r.token)
	if !known {
		return Node{}, r.misplaced()
	}
	r.next()
	return Node{Kind: Proto, N: n}, api.OK
}

// dir reads which end is meant, if that is said.
func (r *reader) dir() int {
	switch r.token {
	case srcWord:
		r.next()
		return Src
	case dstWord:
		r.next()
		return Dst
	}
	return Either
}

// ofNumber reads the number that n is a test of, above the one it has.
func (r *reader) ofNumber(n Node, most int64) (Node, api.Errno) {
	r.next()
	more, ok := number(r.token, most)
	n.N += more
	return r.operand(n, ok)
}

// ofAddr reads the address that n is a test of.
func (r *reader) ofAddr(n Node) (Node, api.Errno) {
	r.next()
	var ok bool
	n.N, ok = addr(r.token)
	return r.operand(n, ok)
}

// ofNet reads the net that n is a test of.
func (r *reader) ofNet(n Node) (Node, api.Errno) {
	r.next()
	var ok bool
	n.N, n.Len, ok = net(r.token)
	return r.operand(n, ok)
}

// operand passes the token that n's number was read of, and answers n, if it could be.
func (r *reader) operand(n Node, ok bool) (Node, api.Errno) {
	switch {
	case ok:
		r.next()
		return n, api.OK
	case r.token == "":
		return Node{}, api.ErrExpr
	}
	return Node{}, api.ErrToken
}
