package link

import (
	"tether/api"
	"tether/chap"
	"tether/eap"
	"tether/pap"
	"tether/phase"
)

// The codes of packets of PAP and EAP.
const (
	papRequest  = 1
	papAck      = 2
	papNak      = 3
	eapRequest  = 1
	eapResponse = 2
	eapSuccess  = 3
	eapFailure  = 4
)

// askFor begins to ask the other end for a proof by a method; nil, if that can not be asked for.
func (l *Link) askFor(method int) *asking {
	switch method {
	case api.MPap:
		return l.askPap()
	case api.MChap:
		return l.askChap()
	case api.MEap:
		return l.askEap()
	}
	return nil
}

// askPap waits for a name and a word. There is nothing to send ahead of them, nor to ask for anew.
func (l *Link) askPap() *asking {
	s, e, _ := pap.NewServer(l.c.Name, l.secrets)
	if e != api.OK {
		return nil
	}
	a := &asking{who: s.Who, anew: rest}
	a.proof = proof{
		proto: api.PPap,
		codes: []int{papRequest},
		event: phase.Theirs,
		again: l.patience(&a.proof),
		take: func(q api.Packet) (verdict, bool) {
			answer, _, e := s.Take(q)
			if e != api.OK {
				return undecided, false
			}
			l.sendPacket(api.PPap, answer)
			return verdictOf(s.State(), pap.Accepted, pap.Refused), true
		},
	}
	return a
}

// askChap sends a Challenge.
func (l *Link) askChap() *asking {
	j, e := chap.New(l.c.Name, l.secrets)
	if e != api.OK {
		return nil
	}
	a := &asking{who: j.Who, anew: func() {
		q, _ := j.Ask(l.chapIds.next(), l.draws.challenge())
		l.sendPacket(api.PChap, q)
	}}
	a.proof = proof{
		proto: api.PChap,
		codes: []int{chap.Response},
		event: phase.Theirs,
		again: func() bool {
			if j.Asked() >= l.c.MaxConfigure {
				return false
			}
			q, _ := j.Again() // it waits as long as it is due
			l.sendPacket(api.PChap, q)
			return true
		},
		take: func(q api.Packet) (verdict, bool) {
			answer, e := j.Take(q)
			if e != api.OK {
				return undecided, false
			}
			l.sendPacket(api.PChap, answer)
			return verdictOf(j.State(), chap.Passed, chap.Refused), true
		},
	}
	a.anew()
	return a
}

// askEap asks who is there.
func (l *Link) askEap() *asking {
	s, e, _ := eap.NewServer(l.c.Name, l.secrets, l.c.MaxConfigure)
	if e != api.OK {
		return nil
	}
	a := &asking{who: s.Who, anew: func() {
		q, _ := s.Prove(l.draws.challenge())
		l.sendPacket(api.PEap, q)
	}}
	a.proof = proof{
		proto: api.PEap,
		codes: []int{eapResponse},
		event: phase.Theirs,
		again: func() bool {
			q, ok, _ := s.Again(nil)
			if ok {
				l.sendPacket(api.PEap, q)
			}
			return ok
		},
		take: func(q api.Packet) (verdict, bool) {
			answer, _, e := s.Take(q, l.draws.challenge())
			if e != api.OK {
				return undecided, false
			}
			l.sendPacket(api.PEap, answer)
			v := verdictOf(s.State(), eap.Accepted, eap.Refused)
			if v == undecided { // another request has gone out
				a.await(l.now, l.c.Restart)
			}
			return v, true
		},
	}
	q, _ := s.Start()
	l.sendPacket(api.PEap, q)
	return a
}
