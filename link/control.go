package link

import (
	"tether/api"
	"tether/auto"
	"tether/opt"
)

// take takes a control packet; false, if it is dropped.
func (p *protocol) take(q api.Packet) bool {
	c := cause{packet: q}
	switch q.Code {
	case api.CConfReq:
		return p.takeRequest(c)
	case api.CConfAck:
		_, fits := p.answers(q)
		return fits && p.event(api.ERCA, c)
	case api.CConfNak, api.CConfRej:
		return p.takeRefusal(c)
	case api.CTermReq:
		return p.event(api.ERTR, c)
	case api.CTermAck:
		return p.event(api.ERTA, c)
	case api.CCodeRej:
		return p.takeCodeReject(c)
	}
	if take := p.other(q.Code); take != nil {
		return take(q)
	}
	return p.event(api.ERUC, c)
}

// takeRequest takes a Configure-Request.
func (p *protocol) takeRequest(c cause) bool {
	l, e := opt.Options(c.packet.Data)
	if e != api.OK {
		return false
	}
	code, answer := p.judge(l)
	b, _ := opt.Bytes(answer...)
	c.options = l
	c.answer = api.Packet{Code: code, Id: c.packet.Id, Data: b}
	if code == api.CConfAck {
		return p.event(api.ERCRP, c)
	}
	return p.event(api.ERCRM, c)
}

// answers answers the options of a packet, if it can be an answer to the request that was sent last.
func (p *protocol) answers(q api.Packet) ([]api.Option, bool) {
	if !p.asked.sent || q.Id != p.asked.id {
		return nil, false
	}
	l, e := opt.Options(q.Data)
	if e != api.OK {
		return nil, false
	}
	fits, _ := opt.Fits(q.Code, p.asked.options, l)
	return l, fits
}

// takeRefusal takes a Configure-Nak, or a Configure-Reject: another request is due behind both, or none any more.
func (p *protocol) takeRefusal(c cause) bool {
	l, fits := p.answers(c.packet)
	if _, _, e := auto.Next(p.State(), api.ERCN); e != api.OK || !fits {
		return false
	}
	if c.packet.Code == api.CConfNak {
		p.nak(l)
	} else if !p.reject(l) {
		return p.event(api.EClose, c)
	}
	return p.event(api.ERCN, c)
}

// takeCodeReject takes a Code-Reject. Without the codes that all protocols have there is no going on.
func (p *protocol) takeCodeReject(c cause) bool {
	if len(c.packet.Data) == 0 {
		return false
	}
	switch code := int(c.packet.Data[0]); {
	case code >= api.CConfReq && code <= api.CTermAck:
		return p.event(api.ERXJM, c)
	}
	return p.event(api.ERXJP, c)
}
