package link

import (
	"tether/api"
	"tether/ipcp"
	"tether/secret"
)

// notTold stands for an address that an end did not tell.
const notTold = -1

// ipcpEnd is IPCP.
type ipcpEnd struct {
	protocol
	ends[ipcp.Opts]
}

// build makes it new.
func (e *ipcpEnd) build(l *Link) {
	nothing := ipcp.Opts{Addr: notTold, Dns1: notTold, Dns2: notTold}
	e.protocol = newProtocol(l, api.PIpcp, deeds{
		want:    func() { e.asks, e.theirs = ipcp.Want(l.c), nothing },
		options: func() []api.Option { return ipcp.Options(e.asks) },
		judge: func(o []api.Option) (int, []api.Option) {
			return ipcp.Judge(l.c, l.given, o, e.naks)
		},
		has:    func(o []api.Option) { e.theirs, _ = ipcp.Read(o) },
		nak:    func(o []api.Option) { e.change(ipcp.Nak(l.c, e.asks, o)) },
		reject: func(o []api.Option) bool { return e.change(ipcp.Reject(l.c, e.asks, o)) },
		other:  noOther,
		up:     e.up,
		down:   rest,
		finish: rest,
	})
}

// up closes IP again, if the ends' addresses can not be.
func (e *ipcpEnd) up() {
	if ipcp.Done(e.asks, e.theirs) != api.OK || !e.allowed() {
		e.event(api.EClose, cause{})
	}
}

// allowed tells whether who has proved who it is may have the address that it told.
func (e *ipcpEnd) allowed() bool {
	l := e.link
	if l.c.Require == 0 || e.theirs.Addr == notTold {
		return true
	}
	s, _ := secret.Find(l.secrets, l.Who(), l.c.Name)
	return secret.Allowed(s, e.theirs.Addr)
}
