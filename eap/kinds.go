package eap

import (
	"tether/api"
	"tether/octet"
)

// The types of requests and responses.
const (
	ofIdentity = 1
	ofNotice   = 2
	ofNak      = 3
	ofProof    = 4
)

// kind is a message that is told apart by its code and its type.
type kind interface {
	// fault answers what is wrong of what the message has.
	fault() api.Errno
	// data answers what its packet has.
	data() []byte
	// read answers the message with what stands behind the type.
	read(r *octet.Reader) (Message, api.Errno)
}

// verdict is a Success, or a Failure.
type verdict struct{ Message }

// identity asks for a name, or says it.
type identity struct{ words }

// notice is what somebody is to read, or that it has come.
type notice struct{ words }

// words are a text alone.
type words struct{ Message }

// wishes are the types that are wished for instead.
type wishes struct{ Message }

// proof is a challenge, or the answer to one.
type proof struct{ Message }

// strange is of a type that is not known.
type strange struct{ Message }

func kindOf(m Message) kind {
	if !typed(m.Code) {
		return verdict{m}
	}
	switch m.Type {
	case ofIdentity:
		return identity{words{m}}
	case ofNotice:
		return notice{words{m}}
	case ofNak:
		return wishes{m}
	case ofProof:
		return proof{m}
	}
	return strange{m}
}

func (v verdict) fault() api.Errno {
	return formed(v.Type == 0 && len(v.Value) == 0 && v.Text == "")
}

func (v verdict) data() []byte {
	return nil
}

func (v verdict) read(r *octet.Reader) (Message, api.Errno) {
	if r.Left() > 0 {
		return Message{}, api.ErrForm
	}
	return v.Message, api.OK
}

func (w words) fault() api.Errno {
	return formed(len(w.Value) == 0)
}

func (w words) data() []byte {
	return append([]byte{byte(w.Type)}, w.Text...)
}

func (w words) read(r *octet.Reader) (Message, api.Errno) {
	w.Text = string(r.Rest())
	return w.Message, api.OK
}

func (w wishes) fault() api.Errno {
	if w.Code == request {
		return api.ErrCode
	}
	return formed(len(w.Value) > 0 && w.Text == "")
}

func (w wishes) data() []byte {
	return append([]byte{byte(w.Type)}, w.Value...)
}

func (w wishes) read(r *octet.Reader) (Message, api.Errno) {
	switch {
	case w.Code == request:
		return Message{}, api.ErrCode
	case r.Left() == 0:
		return Message{}, api.ErrShort
	}
	w.Value = r.Rest()
	return w.Message, api.OK
}

func (p proof) fault() api.Errno {
	return formed(challengeRight(p.Value))
}

func (p proof) data() []byte {
	out := append([]byte{byte(p.Type), byte(len(p.Value))}, p.Value...)
	return append(out, p.Text...)
}

func (p proof) read(r *octet.Reader) (Message, api.Errno) {
	size := int(r.Num(1))
	p.Value = r.Take(size)
	switch {
	case r.Err() != api.OK:
		return Message{}, api.ErrShort
	case size == 0:
		return Message{}, api.ErrForm
	}
	p.Text = string(r.Rest())
	return p.Message, api.OK
}

func (s strange) fault() api.Errno {
	return formed(s.Text == "")
}

func (s strange) data() []byte {
	return append([]byte{byte(s.Type)}, s.Value...)
}

func (s strange) read(r *octet.Reader) (Message, api.Errno) {
	s.Value = r.Rest()
	return s.Message, api.OK
}

func formed(right bool) api.Errno {
	if right {
		return api.OK
	}
	return api.ErrForm
}
