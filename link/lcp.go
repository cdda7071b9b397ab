package link

import (
	"tether/api"
	"tether/lcp"
	"tether/phase"
)

// lcpEnd is LCP.
type lcpEnd struct {
	protocol
	ends[lcp.Opts]
	echo  deadline // when the next Echo-Request goes
	waits int      // how many of them have no answer
}

// build makes it new.
func (e *lcpEnd) build(l *Link) {
	e.protocol = newProtocol(l, api.PLcp, deeds{
		want:    func() { e.asks, e.theirs = lcp.Want(l.c, l.draws.magic()), lcp.Default() },
		options: func() []api.Option { return lcp.Options(e.asks) },
		judge: func(o []api.Option) (int, []api.Option) {
			return lcp.Judge(l.c, e.asks, o, e.naks, l.draws.magic())
		},
		has:    func(o []api.Option) { e.theirs, _ = lcp.Read(o) },
		nak:    func(o []api.Option) { e.change(lcp.Nak(l.c, e.asks, o, l.draws.magic())) },
		reject: func(o []api.Option) bool { return e.change(lcp.Reject(l.c, e.asks, o)) },
		other:  e.other,
		up:     e.up,
		down:   e.down,
		finish: func() { l.phase.Do(phase.Finished) },
	})
}

// lineUp lets it begin on a line. An automaton that has finished would not begin again.
func (e *lcpEnd) lineUp() {
	switch e.State() {
	case api.SInitial, api.SStarting:
	default:
		e.Auto = e.link.newAuto()
	}
	e.begin()
}

// up goes on to the proofs that must be; if there are none, to the networks.
func (e *lcpEnd) up() {
	l := e.link
	l.phase.Open(l.c.Require != 0, e.theirs.Auth != 0)
	e.waits = 0
	if l.c.EchoEvery != 0 {
		e.echo.await(l.now, l.c.EchoEvery)
	}
	switch l.phase.At() {
	case phase.Authenticate:
		l.proofsBegin()
	case phase.Network:
		l.networksBegin()
	}
}

// down takes away all that stands on an open link.
func (e *lcpEnd) down() {
	e.link.phase.Do(phase.Reneg)
	e.link.forget()
	e.link.networksEnd()
}

// other answers what takes the packets that LCP alone has.
func (e *lcpEnd) other(code int) func(q api.Packet) bool {
	switch code {
	case api.CProtRej:
		return e.takeProtocolReject
	case api.CEchoReq, api.CEchoRep, api.CDiscard, api.CIdent:
		return e.takeEcho
	}
	return nil
}

// takeProtocolReject takes it that the other end does not have a protocol.
func (e *lcpEnd) takeProtocolReject(q api.Packet) bool {
	number, err := lcp.Rejected(q)
	if err != api.OK || !e.open() {
		return false
	}
	if number == api.PLcp {
		return e.event(api.ERXJM, cause{packet: q})
	}
	if p := e.link.protocolOf(number); p != nil {
		p.event(api.ERXJM, cause{packet: q})
	}
	return e.event(api.ERXJP, cause{packet: q})
}

// takeEcho takes a packet that begins with a magic number.
func (e *lcpEnd) takeEcho(q api.Packet) bool {
	answer, foreign, err := lcp.Echo(q, e.asks)
	if err != api.OK || !foreign || !e.event(api.ERXR, cause{packet: q, answer: answer}) {
		return false
	}
	if q.Code == api.CEchoRep && e.open() {
		e.waits = 0
	}
	return true
}

// probe asks for an echo; it closes the link, if too many have not come.
func (e *lcpEnd) probe() {
	c := e.link.c
	if e.waits >= c.EchoFail {
		e.event(api.EClose, cause{})
		return
	}
	q, _ := lcp.Reply(api.CEchoReq, e.next(), e.asks.Magic, nil)
	e.send(q)
	e.waits++
	e.echo.await(e.link.now, c.EchoEvery)
}
