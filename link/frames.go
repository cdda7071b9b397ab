package link

import (
	"math"

	"tether/api"
	"tether/hdlc"
	"tether/opt"
)

const packetHead = 4 // bytes of a control packet ahead of its data

// The first half bytes of packets.
const (
	halfOfIp   = 4
	halfOfIpv6 = 6
)

// coming is a frame that comes, and how many bytes of information it had on the line.
type coming struct {
	frame api.Frame
	wire  int
}

// feed takes the frames that end in b. A frame goes through one gate behind the other, as far as they let it.
func (l *Link) feed(b []byte) {
	gates := []func(*coming) bool{l.alive, l.unpack, l.arrive}
frames:
	for f := range l.line.Each(b) {
		in := coming{f, len(f.Info)}
		for _, lets := range gates {
			if !lets(&in) {
				l.dropped++
				continue frames
			}
		}
	}
}

// alive lets no frame through once the link is Dead, as it may be by the frame ahead.
func (l *Link) alive(*coming) bool {
	return !l.dead()
}

// unpack lets the frame through that comes of a packed one, and others as they came.
func (l *Link) unpack(in *coming) bool {
	switch {
	case in.frame.Proto == api.PComp && l.ccp.here():
		return l.ccp.unpack(in)
	case l.ccp.open() && l.carrier(in.frame.Proto) != nil:
		l.ccp.receiver.Take(in.frame) // it learns what the sender has learned
	}
	return true
}

// arrive takes a frame as it was sent.
func (l *Link) arrive(in *coming) bool {
	f := in.frame
	if network := l.carrier(f.Proto); network != nil {
		return network.open() && l.deliver(in)
	}
	p := l.protocolOf(f.Proto)
	if p == nil && !proves(f.Proto) {
		l.disown(f)
		return false
	}
	q, e := opt.Unpack(f.Info)
	switch {
	case e != api.OK || !l.phase.Passes(f.Proto):
		return false
	case p == nil:
		return l.takeProof(f.Proto, q)
	}
	return p.take(q)
}

// carrier answers the protocol of the network whose packets frames of a protocol carry; nil, if there is none here.
func (l *Link) carrier(proto int) *protocol {
	switch {
	case proto == api.PIp:
		return &l.ipcp.protocol
	case proto == api.PIpv6 && l.ipv6cp.here():
		return &l.ipv6cp.protocol
	}
	return nil
}

// deliver puts out the packet that a frame carries.
func (l *Link) deliver(in *coming) bool {
	b := in.frame.Info
	l.out = append(l.out, api.Out{Kind: api.OTun, B: b})
	l.meter.Add(false, int64(len(b)), int64(in.wire))
	return true
}

// disown tells the other end that a frame's protocol is not here.
func (l *Link) disown(f api.Frame) {
	if l.lcp.open() {
		b := []byte{byte(f.Proto >> 8), byte(f.Proto)}
		l.lcp.sendOwn(api.CProtRej, l.cut(append(b, f.Info...)))
	}
}

// cut answers as much of a rejection's data as the other end takes.
func (l *Link) cut(b []byte) []byte {
	return b[:min(len(b), l.lcp.theirs.Mru-packetHead)]
}

// networkOf answers the frames' protocol by which a packet goes, and the protocol of its network; 0, if it is no packet.
func (l *Link) networkOf(b []byte) (int, *protocol) {
	if len(b) == 0 {
		return 0, nil
	}
	switch b[0] >> 4 {
	case halfOfIp:
		return api.PIp, &l.ipcp.protocol
	case halfOfIpv6:
		return api.PIpv6, &l.ipv6cp.protocol
	}
	return 0, nil
}

// goes sends a packet, if its network is open still.
func (l *Link) goes(b []byte) {
	proto, network := l.networkOf(b)
	if !network.open() {
		return
	}
	f := api.Frame{Proto: proto, Info: b}
	if l.ccp.open() {
		f, _ = l.ccp.sender.Send(f) // an Mru lets nothing through that is too long for it
	}
	l.sendFrame(f)
	l.meter.Add(true, int64(len(b)), int64(len(f.Info)))
}

// sendPacket sends a control packet.
func (l *Link) sendPacket(proto int, q api.Packet) {
	b, _ := opt.Pack(q)
	l.sendFrame(api.Frame{Proto: proto, Info: b})
}

// sendFrame puts a frame on the line, as the other end wants it as soon as that is agreed.
func (l *Link) sendFrame(f api.Frame) {
	s := hdlc.Send{Accm: math.MaxUint32}
	if l.lcp.open() {
		theirs := l.lcp.theirs
		s = hdlc.Send{Accm: theirs.Accm, Pfc: theirs.Pfc, Acfc: theirs.Acfc}
	}
	b, _ := hdlc.Encode(f, s)
	l.out = append(l.out, api.Out{Kind: api.OSerial, B: b})
}
