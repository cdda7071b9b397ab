package link

import (
	"slices"

	"tether/api"
	"tether/phase"
)

// verdict is what has come of a proof.
type verdict int

const (
	undecided verdict = iota
	holds
	fails
)

// verdictOf answers what a state tells, where two of them decide.
func verdictOf(state, accepted, refused int) verdict {
	switch state {
	case accepted:
		return holds
	case refused:
		return fails
	}
	return undecided
}

// proof is one end's proof of who it is.
type proof struct {
	deadline
	proto   int
	codes   []int // of the packets that are for it
	event   int   // what the phase does when it holds
	decided bool
	times   int                                // how often it was due
	take    func(q api.Packet) (verdict, bool) // takes such a packet; false, if it is dropped
	again   func() bool                        // what is done when it is due; false, if that was done often enough
}

// asking is a proof that this end asks for.
type asking struct {
	proof
	who  func() string // the name that was proved
	anew func()        // asks for another proof
}

// patience answers what is done when a proof is due for which the other end alone can do something.
func (l *Link) patience(p *proof) func() bool {
	return func() bool { return p.times < l.c.MaxConfigure }
}

// proves tells whether a protocol is one by which an end proves who it is.
func proves(proto int) bool {
	return proto == api.PPap || proto == api.PChap || proto == api.PEap
}

// proofsBegin lets all proofs begin that must be.
func (l *Link) proofsBegin() {
	if method := l.c.Require; method != 0 {
		l.theirs = l.askFor(method)
		if l.theirs == nil {
			l.bad()
			return
		}
		l.theirs.await(l.now, l.c.Restart)
	}
	if method := l.lcp.theirs.Auth; method != 0 {
		l.mine = l.giveBy(method)
		if l.mine == nil {
			l.bad()
			return
		}
		l.mine.await(l.now, l.c.Restart)
	}
}

// proofs answers those that have begun.
func (l *Link) proofs() []*proof {
	var out []*proof
	if l.theirs != nil {
		out = append(out, &l.theirs.proof)
	}
	if l.mine != nil {
		out = append(out, l.mine)
	}
	return out
}

// takeProof takes a packet of a protocol by which an end proves who it is; false, if it is dropped.
func (l *Link) takeProof(proto int, q api.Packet) bool {
	for _, p := range l.proofs() {
		if p.proto == proto && slices.Contains(p.codes, q.Code) {
			v, taken := p.take(q)
			l.judge(p, v)
			return taken
		}
	}
	return false
}

// judge does what a verdict says.
func (l *Link) judge(p *proof, v verdict) {
	switch v {
	case holds:
		l.proved(p)
	case fails:
		l.bad()
	}
}

// proved goes on behind a proof that holds: to the networks, if it was the last one.
func (l *Link) proved(p *proof) {
	if p.decided {
		return
	}
	p.decided = true
	p.stop()
	if l.phase.At() == phase.Network { // it was asked for anew
		return
	}
	l.phase.Do(p.event)
	if l.phase.At() != phase.Network {
		return
	}
	l.networksBegin()
	if l.c.Rechallenge != 0 && (l.c.Require == api.MChap || l.c.Require == api.MEap) {
		l.rechallenge.await(l.now, l.c.Rechallenge)
	}
}

// bad ends the link behind a proof that fails.
func (l *Link) bad() {
	l.phase.Do(phase.Bad)
	l.lcp.event(api.EClose, cause{})
}

// forget forgets all proofs, and what else began with the open link.
func (l *Link) forget() {
	l.theirs, l.mine = nil, nil
	l.rechallenge.stop()
	l.lcp.echo.stop()
}

// tryAgain goes on with a proof that is due.
func (l *Link) tryAgain(p *proof) {
	p.times++
	p.await(l.now, l.c.Restart)
	if !p.again() {
		l.bad()
	}
}

// askAnew asks for another proof, if the last one has come.
func (l *Link) askAnew() {
	l.rechallenge.await(l.now, l.c.Rechallenge)
	if p := l.theirs; p.decided {
		p.decided = false
		p.await(l.now, l.c.Restart)
		p.anew()
	}
}
