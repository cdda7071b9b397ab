package link

import (
	"tether/api"
	"tether/auto"
	"tether/opt"
)

// ids are the identifiers of packets that an end sends of itself.
type ids struct {
	last int
}

// next answers the next one.
func (i *ids) next() int {
	i.last = (i.last + 1) % 256
	return i.last
}

// deeds are what a protocol does with what it asks, and with what comes of that.
type deeds struct {
	want    func()                                   // asks what it asks first; the other end has nothing yet
	options func() []api.Option                      // of what it asks
	judge   func(o []api.Option) (int, []api.Option) // answers what the other end asks
	has     func(o []api.Option)                     // lets the other end have what it asks
	nak     func(o []api.Option)                     // asks what a Nak tells
	reject  func(o []api.Option) bool                // asks what a Reject leaves; false, if it can't do without what that names
	other   func(code int) func(q api.Packet) bool   // answers what takes packets of a code that not all protocols have; nil, if this one does not have it
	up      func()                                   // this layer is up
	down    func()                                   // it is down
	finish  func()                                   // it has finished
}

// rest is what a protocol does where it does nothing.
func rest() {}

// noOther is other of a protocol that has no codes of its own.
func noOther(int) func(api.Packet) bool {
	return nil
}

// ends is what this end asks, and what the other one has.
type ends[T any] struct {
	asks   T
	theirs T
}

// change lets this end ask something else, and tells again whether it can.
func (e *ends[T]) change(asks T, can bool) bool {
	e.asks = asks
	return can
}

// request is a Configure-Request that was sent.
type request struct {
	sent    bool
	id      int
	options []api.Option
}

// protocol is what all protocols with an automaton have alike. One that is not here has no automaton, and is in Initial.
type protocol struct {
	*auto.Auto
	ids
	deeds
	link    *Link
	number  int
	restart deadline
	asked   request // the last one
	naks    int     // how many were sent since an Ack or a Reject
}

func newProtocol(l *Link, number int, d deeds) protocol {
	return protocol{Auto: l.newAuto(), deeds: d, link: l, number: number}
}

func (l *Link) newAuto() *auto.Auto {
	return auto.New(l.c.MaxConfigure, l.c.MaxTerminate)
}

// here tells whether there is such a protocol.
func (p *protocol) here() bool {
	return p.Auto != nil
}

// open tells whether it is in Opened.
func (p *protocol) open() bool {
	return p.State() == api.SOpened
}

// begin makes it ready, and lets it negotiate.
func (p *protocol) begin() {
	p.want()
	p.asked = request{}
	p.naks = 0
	if p.State() == api.SInitial {
		p.event(api.EOpen, cause{})
	}
	p.event(api.EUp, cause{})
}

// timer answers when the restart timer runs out, if it runs.
func (p *protocol) timer() deadline {
	if !p.Running() {
		return deadline{}
	}
	return p.restart
}

// timeout lets it run out.
func (p *protocol) timeout() {
	if actions, e := p.Timeout(); e == api.OK {
		p.act(actions, cause{})
	}
}

// cause is the packet by which an event comes, that one's options, and the packet that is to answer it.
type cause struct {
	packet  api.Packet
	options []api.Option
	answer  api.Packet
}

// event lets an event come; false, if it can not.
func (p *protocol) event(event int, c cause) bool {
	actions, e := p.Do(event)
	if e != api.OK {
		return false
	}
	p.act(actions, c)
	return true
}

// act does what the automaton answers.
func (p *protocol) act(actions []int, c cause) {
	if auto.Begins(actions...) {
		p.restart.await(p.link.now, p.link.c.Restart)
	}
	for _, action := range actions {
		switch action {
		case api.ATlu:
			p.up()
		case api.ATld:
			p.down()
		case api.ATlf:
			p.finish()
		default:
			p.tell(action, c)
		}
	}
}

// tell sends the packet that an action names, if it names one.
func (p *protocol) tell(action int, c cause) {
	switch action {
	case api.AScr:
		p.ask()
	case api.ASca, api.AScn:
		p.reply(c)
	case api.AStr:
		p.sendOwn(api.CTermReq, nil)
	case api.ASta:
		p.send(api.Packet{Code: api.CTermAck, Id: c.packet.Id})
	case api.AScj:
		b, _ := opt.Pack(c.packet) // it was read, so it can be written
		p.sendOwn(api.CCodeRej, p.link.cut(b))
	case api.ASer:
		if c.packet.Code == api.CEchoReq { // the other packets of this event have no answer
			p.send(c.answer)
		}
	}
}

// ask sends a Configure-Request.
func (p *protocol) ask() {
	o := p.options()
	b, _ := opt.Bytes(o...)
	p.sendOwn(api.CConfReq, b)
	p.asked = request{sent: true, id: p.last, options: o}
}

// reply sends the answer to a Configure-Request.
func (p *protocol) reply(c cause) {
	switch c.answer.Code {
	case api.CConfAck:
		p.naks = 0
		p.has(c.options)
	case api.CConfNak:
		p.naks++
	case api.CConfRej:
		p.naks = 0
	}
	p.send(c.answer)
}

// sendOwn sends a packet with the next identifier.
func (p *protocol) sendOwn(code int, data []byte) {
	p.send(api.Packet{Code: code, Id: p.next(), Data: data})
}

// send sends a packet.
func (p *protocol) send(q api.Packet) {
	p.link.sendPacket(p.number, q)
}
