package eap

import (
	"tether/api"
	"tether/secret"
	"tether/spell"
)

// Peer says its name, and proves it.
type Peer struct {
	name    string
	secrets *secret.Table
	state   int
	notice  string
}

// NewPeer answers a peer in Idle, or the first secret that can not be.
func NewPeer(name string, l []api.Secret) (*Peer, api.Errno, int) {
	if !spell.Name(name) {
		return nil, api.ErrName, 0
	}
	t, e, at := secret.New(l)
	if e != api.OK {
		return nil, e, at
	}
	return &Peer{name: name, secrets: t}, api.OK, 0
}

// Take answers the response to a request, and true; false behind Success and Failure, which have none.
func (p *Peer) Take(q api.Packet) (api.Packet, bool, api.Errno) {
	if p == nil {
		return api.Packet{}, false, api.ErrNil
	}
	m, e := Read(q)
	switch {
	case e != api.OK:
		return api.Packet{}, false, e
	case m.Code == response:
		return api.Packet{}, false, api.ErrCode
	}
	return p.hear(kindOf(m))
}

func (p *Peer) hear(k kind) (api.Packet, bool, api.Errno) {
	var answer Message
	switch q := k.(type) {
	case verdict:
		return api.Packet{}, false, p.end(q.Code)
	case identity:
		p.state = Asking
		answer = Message{Id: q.Id, Type: ofIdentity, Text: p.name}
	case notice:
		p.notice = q.Text
		answer = Message{Id: q.Id, Type: ofNotice}
	case proof:
		answer = p.prove(q)
	case strange:
		answer = nak(q.Id, ofProof)
	}
	answer.Code = response
	out, e := Write(answer)
	return out, e == api.OK, e
}

// end takes a Success, or a Failure. A Success that comes ahead of a proof may be anybody's.
func (p *Peer) end(code int) api.Errno {
	switch {
	case code == failure:
		p.state = Refused
	case p.state == Proving:
		p.state = Accepted
	default:
		return api.ErrState
	}
	return api.OK
}

// prove answers a challenge; who asks is the text behind it.
func (p *Peer) prove(q proof) Message {
	value, ok := due(p.secrets, p.name, q.Text, q.Id, q.Value)
	if !ok {
		return nak(q.Id, 0)
	}
	p.state = Proving
	return Message{Id: q.Id, Type: ofProof, Value: value, Text: p.name}
}

// nak wishes for a type; 0 is none.
func nak(id int, wish byte) Message {
	return Message{Id: id, Type: ofNak, Value: []byte{wish}}
}

// State answers what it is.
func (p *Peer) State() int {
	if p == nil {
		return Idle
	}
	return p.state
}

// Notice answers the text of the last Notification.
func (p *Peer) Notice() string {
	if p == nil {
		return ""
	}
	return p.notice
}
