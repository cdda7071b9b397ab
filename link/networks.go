package link

import "tether/api"

// networks answers the protocols that stand on an open link, as there are.
func (l *Link) networks() []*protocol {
	var out []*protocol
	for _, p := range []*protocol{&l.ipcp.protocol, &l.ipv6cp.protocol, &l.ccp.protocol} {
		if p.here() {
			out = append(out, p)
		}
	}
	return out
}

// protocols answers all protocols with an automaton.
func (l *Link) protocols() []*protocol {
	return append([]*protocol{&l.lcp.protocol}, l.networks()...)
}

// protocolOf answers the protocol of a number; nil, if there is none here.
func (l *Link) protocolOf(number int) *protocol {
	for _, p := range l.protocols() {
		if p.number == number {
			return p
		}
	}
	return nil
}

// networksBegin lets them all begin.
func (l *Link) networksBegin() {
	for _, p := range l.networks() {
		p.begin()
	}
}

// networksEnd takes the link away from them all.
func (l *Link) networksEnd() {
	for _, p := range l.networks() {
		p.event(api.EDown, cause{})
	}
}
