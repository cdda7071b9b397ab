package link

import (
	"tether/api"
	"tether/chap"
	"tether/eap"
	"tether/pap"
	"tether/phase"
	"tether/secret"
)

const noAnswer = -1 // no packet's identifier

// giveBy begins to prove by a method who this end is; nil, if that can not be.
func (l *Link) giveBy(method int) *proof {
	switch method {
	case api.MPap:
		return l.givePap()
	case api.MChap:
		return l.giveChap()
	case api.MEap:
		return l.giveEap()
	}
	return nil
}

// givePap says this end's name and word.
func (l *Link) givePap() *proof {
	s, _ := secret.Find(l.secrets, l.c.Name, l.c.Remote)
	peer, e := pap.NewPeer(l.c.Name, s.Word, l.c.MaxConfigure)
	if e != api.OK {
		return nil
	}
	say := func() bool {
		q, ok, _ := peer.Send()
		if ok {
			l.sendPacket(api.PPap, q)
		}
		return ok
	}
	say()
	return &proof{
		proto: api.PPap,
		codes: []int{papAck, papNak},
		event: phase.Mine,
		again: say,
		take: func(q api.Packet) (verdict, bool) {
			if _, e := peer.Take(q); e != api.OK {
				return undecided, false
			}
			return verdictOf(peer.State(), pap.Accepted, pap.Refused), true
		},
	}
}

// giveChap waits for a Challenge.
func (l *Link) giveChap() *proof {
	untold := noAnswer // the identifier of the last Response, until its Success or Failure comes
	p := &proof{}
	*p = proof{
		proto: api.PChap,
		codes: []int{chap.Challenge, chap.Success, chap.Failure},
		event: phase.Mine,
		again: l.patience(p),
		take: func(q api.Packet) (verdict, bool) {
			switch {
			case q.Code == chap.Challenge:
				answer, e := chap.Answer(q, l.c.Name, l.c.Remote, l.secrets)
				switch e {
				case api.OK:
					untold = answer.Id
					l.sendPacket(api.PChap, answer)
					return undecided, true
				case api.ErrNone:
					return fails, true
				}
				return undecided, false
			case q.Id != untold:
				return undecided, false
			}
			untold = noAnswer
			return verdictOf(q.Code, chap.Success, chap.Failure), true
		},
	}
	return p
}

// giveEap waits for requests.
func (l *Link) giveEap() *proof {
	peer, e, _ := eap.NewPeer(l.c.Name, l.secrets)
	if e != api.OK {
		return nil
	}
	p := &proof{}
	*p = proof{
		proto: api.PEap,
		codes: []int{eapRequest, eapSuccess, eapFailure},
		event: phase.Mine,
		again: l.patience(p),
		take: func(q api.Packet) (verdict, bool) {
			answer, ok, e := peer.Take(q)
			if e != api.OK {
				return undecided, false
			}
			if ok {
				l.sendPacket(api.PEap, answer)
			}
			return verdictOf(peer.State(), eap.Accepted, eap.Refused), true
		},
	}
	return p
}
