package chap

import (
	"tether/api"
	"tether/octet"
	"tether/spell"
)

// coming is a packet that comes, whose kind its code tells.
type coming interface {
	// read answers its value and its name.
	read() ([]byte, string, api.Errno)
}

// asked is a Challenge.
type asked struct {
	valued
}

// replied is a Response.
type replied struct {
	valued
}

// valued is a packet with a value and a name.
type valued struct {
	packet api.Packet
}

// other is a packet with neither.
type other struct{}

// kindOf tells packets apart; what stands in them is looked at later.
func kindOf(p api.Packet) coming {
	switch p.Code {
	case Challenge:
		return asked{valued{p}}
	case Response:
		return replied{valued{p}}
	}
	return other{}
}

func (v valued) id() int {
	return v.packet.Id
}

func (v valued) read() ([]byte, string, api.Errno) {
	r := octet.NewReader(v.packet.Data)
	size := int(r.Num(1))
	value := r.Take(size)
	switch {
	case !idRight(v.packet.Id):
		return nil, "", api.ErrCode
	case r.Err() != api.OK:
		return nil, "", api.ErrShort
	case size == 0:
		return nil, "", api.ErrSize
	}
	name := string(r.Rest())
	if !spell.Name(name) {
		return nil, "", api.ErrName
	}
	return value, name, api.OK
}

func (other) read() ([]byte, string, api.Errno) {
	return nil, "", api.ErrCode
}
