package pap

import (
	"tether/api"
	"tether/spell"
)

// Peer says its name and word.
type Peer struct {
	name, word string
	tries      int
	sent       int // how many requests, since it was new
	last       int // the identifier of the last one ever
	state      int
	message    string
}

// NewPeer answers a peer in Wait.
func NewPeer(name, word string, tries int) (*Peer, api.Errno) {
	switch {
	case !spell.Name(name):
		return nil, api.ErrName
	case !spell.Name(word):
		return nil, api.ErrValue
	case tries < 1 || tries > 255:
		return nil, api.ErrArg
	}
	return &Peer{name: name, word: word, tries: tries}, api.OK
}

// Send answers its next request; false, if there have been as many as may be.
func (p *Peer) Send() (api.Packet, bool, api.Errno) {
	switch {
	case p == nil:
		return api.Packet{}, false, api.ErrNil
	case p.state != Wait:
		return api.Packet{}, false, api.ErrState
	case p.sent >= p.tries:
		p.state = Gone
		return api.Packet{}, false, api.OK
	}
	p.sent++
	p.last = (p.last + 1) % 256
	q, e := Request(p.last, p.name, p.word)
	return q, e == api.OK, e
}

// Take takes the answer to the last request, and tells whether it accepts.
func (p *Peer) Take(q api.Packet) (bool, api.Errno) {
	if p == nil {
		return false, api.ErrNil
	}
	ok, message, e := ReadAnswer(q)
	switch {
	case e != api.OK:
		return false, e
	case p.state != Wait || p.sent == 0:
		return false, api.ErrState
	case q.Id != p.last:
		return false, api.ErrArg
	}
	p.state, p.message = Refused, message
	if ok {
		p.state = Accepted
	}
	return ok, api.OK
}

// State answers what it is.
func (p *Peer) State() int {
	if p == nil {
		return Wait
	}
	return p.state
}

// Message answers that of the answer that was taken.
func (p *Peer) Message() string {
	if p == nil {
		return ""
	}
	return p.message
}

// Reset makes it as it was when it was new; its identifiers go on.
func (p *Peer) Reset() {
	if p != nil {
		p.sent, p.state, p.message = 0, Wait, ""
	}
}
