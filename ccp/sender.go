package ccp

import "tether/api"

// Sender: the end of a direction that packs.
type Sender struct {
	opts   Opts
	packer packer
}

// NewSender answers an end that packs by o's method; nil, if o's bits can not be.
func NewSender(o Opts) *Sender {
	if !o.right() {
		return nil
	}
	return &Sender{opts: o, packer: newPacker(o)}
}

// Send answers the frame that goes in f's place: a packed one, if that has fewer bytes; else f.
func (s *Sender) Send(f api.Frame) (api.Frame, api.Errno) {
	if s == nil {
		return api.Frame{}, api.ErrNil
	}
	b, e := Bytes(f)
	switch {
	case e != api.OK:
		return api.Frame{}, e
	case f.Proto == api.PComp:
		return api.Frame{}, api.ErrProto
	case s.packer == nil || !compressed(f.Proto, len(b)):
		return own(f), api.OK
	}
	packed, e := s.packer.Pack(b)
	switch {
	case e != api.OK:
		return api.Frame{}, e
	case len(packed) >= len(b):
		return own(f), api.OK
	}
	return api.Frame{Proto: api.PComp, Info: packed}, api.OK
}

// Reset makes the sender as new, as a Reset-Request asks, and answers the Reset-Ack.
func (s *Sender) Reset(p api.Packet) (api.Packet, api.Errno) {
	switch {
	case s == nil:
		return api.Packet{}, api.ErrNil
	case !idRight(p.Id):
		return api.Packet{}, api.ErrArg
	case p.Code != api.CResetReq:
		return api.Packet{}, api.ErrCode
	}
	s.packer = newPacker(s.opts)
	return api.Packet{Code: api.CResetAck, Id: p.Id}, api.OK
}

func idRight(id int) bool {
	return id >= 0 && id <= 255
}
