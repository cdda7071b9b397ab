package lcp

import "tether/api"

// Echo answers what is to be answered to a packet that begins with a magic number; false, if that is this end's own.
func Echo(p api.Packet, mine Opts) (api.Packet, bool, api.Errno) {
	if len(p.Data) < magicSize {
		return api.Packet{}, false, api.ErrShort
	}
	switch p.Code {
	case api.CEchoReq, api.CEchoRep, api.CDiscard, api.CIdent:
	default:
		return api.Packet{}, false, api.ErrCode
	}
	magic, data := p.Data[:magicSize], p.Data[magicSize:]
	if mine.Magic != 0 && number(magic, magicSize) == uint64(mine.Magic) {
		return api.Packet{}, false, api.OK
	}
	if p.Code != api.CEchoReq {
		return api.Packet{}, true, api.OK
	}
	out, e := Reply(api.CEchoRep, p.Id, mine.Magic, data)
	return out, e == api.OK, e
}

// Reply answers a packet of data with a magic number ahead.
func Reply(code, id int, magic uint32, data []byte) (api.Packet, api.Errno) {
	if !isByte(code) || !isByte(id) {
		return api.Packet{}, api.ErrCode
	}
	if len(data) > api.MaxData-magicSize {
		return api.Packet{}, api.ErrSize
	}
	return api.Packet{Code: code, Id: id, Data: append(lowest(uint64(magic), magicSize), data...)}, api.OK
}

func isByte(n int) bool {
	return n >= 0 && n <= 255
}

// Rejected answers the number of the protocol that a Protocol-Reject names.
func Rejected(p api.Packet) (int, api.Errno) {
	if p.Code != api.CProtRej {
		return 0, api.ErrCode
	}
	if len(p.Data) < protoSize {
		return 0, api.ErrShort
	}
	return int(number(p.Data[:protoSize], protoSize)), api.OK
}
