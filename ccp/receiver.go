package ccp

import "tether/api"

// The states of a receiver.
const (
	Good = 0
	Lost = 1 // it takes nothing that is packed, until a reset is acknowledged
)

// Receiver: the end of a direction that unpacks.
type Receiver struct {
	opts     Opts
	unpacker unpacker
	state    int
	waits    bool // for the acknowledgement of a reset
	id       int  // of that
}

// NewReceiver answers an end that unpacks by o's method; nil, if o's bits can not be.
func NewReceiver(o Opts) *Receiver {
	if !o.right() {
		return nil
	}
	return &Receiver{opts: o, unpacker: newUnpacker(o)}
}

// Take answers the frame that was sent: the one that is in a packed one; of others f.
func (r *Receiver) Take(f api.Frame) (api.Frame, api.Errno) {
	if r == nil {
		return api.Frame{}, api.ErrNil
	}
	b, e := Bytes(f)
	switch {
	case e != api.OK:
		return api.Frame{}, e
	case f.Proto == api.PComp:
		return r.takePacked(f.Info)
	}
	if r.unpacker != nil && r.state == Good && compressed(f.Proto, len(b)) {
		r.unpacker.Plain(b)
	}
	return own(f), api.OK
}

// takePacked answers the frame that is in a packed one. With one that can not be unpacked the receiver is lost.
func (r *Receiver) takePacked(packed []byte) (api.Frame, api.Errno) {
	switch {
	case r.unpacker == nil:
		return api.Frame{}, api.ErrProto
	case r.state == Lost:
		return api.Frame{}, api.ErrState
	}
	f, e := r.unpack(packed)
	if e != api.OK {
		r.state = Lost
	}
	return f, e
}

// unpack answers the frame that is in a packed one, if it is one that is compressed.
func (r *Receiver) unpack(packed []byte) (api.Frame, api.Errno) {
	b, e := r.unpacker.Unpack(packed)
	if e != api.OK {
		return api.Frame{}, e
	}
	f, e := Frame(b)
	if e == api.OK && !compressed(f.Proto, len(b)) {
		return api.Frame{}, api.ErrProto
	}
	return f, e
}

// Ask answers a Reset-Request, whose acknowledgement the receiver waits for from then on.
func (r *Receiver) Ask(id int) (api.Packet, api.Errno) {
	switch {
	case r == nil:
		return api.Packet{}, api.ErrNil
	case !idRight(id):
		return api.Packet{}, api.ErrArg
	case r.state != Lost:
		return api.Packet{}, api.ErrState
	}
	r.waits, r.id = true, id
	return api.Packet{Code: api.CResetReq, Id: id}, api.OK
}

// Ack makes the receiver as new, when the reset that it asked for is acknowledged.
func (r *Receiver) Ack(p api.Packet) api.Errno {
	switch {
	case r == nil:
		return api.ErrNil
	case !idRight(p.Id):
		return api.ErrArg
	case p.Code != api.CResetAck:
		return api.ErrCode
	case !r.waits:
		return api.ErrState
	case p.Id != r.id:
		return api.ErrArg
	}
	*r = *NewReceiver(r.opts)
	return api.OK
}

// State tells whether the receiver is Good, or Lost.
func (r *Receiver) State() int {
	if r == nil {
		return Good
	}
	return r.state
}
