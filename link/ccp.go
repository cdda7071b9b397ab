package link

import (
	"tether/api"
	"tether/ccp"
)

// ccpEnd is CCP.
type ccpEnd struct {
	protocol
	ends[ccp.Opts]
	sender   *ccp.Sender   // nil, where it is not in Opened
	receiver *ccp.Receiver // likewise
}

// build makes it new.
func (e *ccpEnd) build(l *Link) {
	e.protocol = newProtocol(l, api.PCcp, deeds{
		want:    func() { e.asks, e.theirs = ccp.Want(l.c), ccp.Opts{} },
		options: func() []api.Option { return ccp.Options(e.asks) },
		judge: func(o []api.Option) (int, []api.Option) {
			return ccp.Judge(l.c, o, e.naks)
		},
		has:    func(o []api.Option) { e.theirs, _ = ccp.Read(o) },
		nak:    func(o []api.Option) { e.change(ccp.Nak(l.c, e.asks, o)) },
		reject: func(o []api.Option) bool { return e.change(ccp.Reject(l.c, e.asks, o)) },
		other:  e.other,
		up:     e.up,
		down:   func() { e.sender, e.receiver = nil, nil },
		finish: rest,
	})
}

// up begins to pack what the other end can unpack, and to unpack what this end asked for.
func (e *ccpEnd) up() {
	mine, _ := ccp.Read(e.asked.options)
	e.sender = ccp.NewSender(e.theirs)
	e.receiver = ccp.NewReceiver(mine)
}

// other answers what takes the packets that CCP alone has.
func (e *ccpEnd) other(code int) func(q api.Packet) bool {
	switch code {
	case api.CResetReq:
		return e.takeReset
	case api.CResetAck:
		return func(q api.Packet) bool { return e.receiver.Ack(q) == api.OK } // which refuses all, where it is nil
	}
	return nil
}

// takeReset makes the sender new, as the other end asks; one that is nil refuses that.
func (e *ccpEnd) takeReset(q api.Packet) bool {
	answer, err := e.sender.Reset(q)
	if err != api.OK {
		return false
	}
	e.send(answer)
	return true
}

// unpack puts what comes of a packed frame in its place; with one that can not be unpacked the other end is asked to begin anew.
func (e *ccpEnd) unpack(in *coming) bool {
	if !e.open() {
		return false
	}
	f, err := e.receiver.Take(in.frame)
	if err != api.OK {
		if e.receiver.State() == ccp.Lost {
			q, _ := e.receiver.Ask(e.next())
			e.send(q)
		}
		return false
	}
	in.frame = f
	return f.Proto != api.PComp
}
