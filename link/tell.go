package link

import (
	"tether/api"
	"tether/hdlc"
	"tether/meter"
	"tether/phase"
)

// Phase answers the link's phase.
func (l *Link) Phase() int {
	if !l.made() {
		return phase.Dead
	}
	return l.phase.At()
}

// State answers the state of a protocol's automaton; of a protocol without one Initial.
func (l *Link) State(proto int) int {
	if !l.made() {
		return api.SInitial
	}
	p := l.protocolOf(proto)
	if p == nil {
		return api.SInitial
	}
	return p.State()
}

// Ready tells whether packets of IP, and of IPv6, may go.
func (l *Link) Ready() (bool, bool) {
	return l.State(api.PIpcp) == api.SOpened, l.State(api.PIpv6cp) == api.SOpened
}

// Addrs answers this end's address, and the other one's, while IP may go.
func (l *Link) Addrs() (int64, int64) {
	if ready, _ := l.Ready(); !ready {
		return 0, 0
	}
	return l.ipcp.asks.Addr, max(l.ipcp.theirs.Addr, 0)
}

// Ids answers this end's interface identifier, and the other one's, while IPv6 may go.
func (l *Link) Ids() (uint64, uint64) {
	if _, ready := l.Ready(); !ready {
		return 0, 0
	}
	return l.ipv6cp.asks, l.ipv6cp.theirs
}

// Who answers the name by which the other end has proved who it is.
func (l *Link) Who() string {
	if !l.made() || l.theirs == nil {
		return ""
	}
	return l.theirs.who()
}

// Next answers when something is due.
func (l *Link) Next() (int64, api.Errno) {
	if !l.made() {
		return 0, api.ErrNil
	}
	var first deadline
	for _, d := range l.deadlines() {
		if d.set && (!first.set || d.at < first.at) {
			first = d
		}
	}
	if !first.set {
		return 0, api.ErrNone
	}
	return max(first.at, l.now), api.OK
}

// Counts answers what was counted of the packets that went, or that came.
func (l *Link) Counts(out bool) meter.Counts {
	if !l.made() {
		return meter.Counts{}
	}
	return l.meter.Counts(out)
}

// Line answers what was counted of the line.
func (l *Link) Line() hdlc.Counts {
	if !l.made() {
		return hdlc.Counts{}
	}
	return l.line.Counts()
}

// Dropped answers how many frames were dropped.
func (l *Link) Dropped() int64 {
	if !l.made() {
		return 0
	}
	return l.dropped
}
