package link

import (
	"tether/api"
	"tether/ipv6cp"
)

// ipv6cpEnd is IPV6CP; of an end that has no identifier that is 0.
type ipv6cpEnd struct {
	protocol
	ends[uint64]
}

// build makes it new.
func (e *ipv6cpEnd) build(l *Link) {
	e.protocol = newProtocol(l, api.PIpv6cp, deeds{
		want:    func() { e.asks, e.theirs = ipv6cp.Want(l.c, l.draws.next()), 0 },
		options: func() []api.Option { return ipv6cp.Options(e.asks) },
		judge: func(o []api.Option) (int, []api.Option) {
			return ipv6cp.Judge(l.c, e.asks, o, e.naks, l.draws.next())
		},
		has:    func(o []api.Option) { e.theirs, _, _ = ipv6cp.Read(o) },
		nak:    func(o []api.Option) { e.change(ipv6cp.Nak(e.asks, o, l.draws.next())) },
		reject: func(o []api.Option) bool { return e.change(ipv6cp.Reject(e.asks, o)) },
		other:  noOther,
		up:     e.up,
		down:   rest,
		finish: rest,
	})
}

// up closes IPv6 again, if the ends' identifiers can not be.
func (e *ipv6cpEnd) up() {
	if ipv6cp.Done(e.asks, e.theirs) != api.OK {
		e.event(api.EClose, cause{})
	}
}
