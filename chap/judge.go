package chap

import (
	"bytes"

	"tether/api"
	"tether/secret"
	"tether/spell"
)

// The states of a judge.
const (
	Idle    = 0
	Waits   = 1
	Passed  = 2
	Refused = 3
)

// Judge asks the other end to prove who it is.
type Judge struct {
	name    string
	secrets *secret.Table
	state   int
	last    api.Packet // the last Challenge
	asked   int        // how often it was sent
	who     string
}

// New answers a judge of who is called name; it is Idle.
func New(name string, l []api.Secret) (*Judge, api.Errno) {
	if !spell.Name(name) {
		return nil, api.ErrName
	}
	t, e, _ := secret.New(l)
	if e != api.OK {
		return nil, e
	}
	return &Judge{name: name, secrets: t}, api.OK
}

// Ask answers a new Challenge, whose Response is waited for from now on.
func (j *Judge) Ask(id int, value []byte) (api.Packet, api.Errno) {
	if j == nil {
		return api.Packet{}, api.ErrNil
	}
	p, e := Make(Challenge, id, value, j.name)
	if e != api.OK {
		return api.Packet{}, e
	}
	j.last, j.state, j.asked = p, Waits, 1
	return j.challenge(), api.OK
}

// Again answers the Challenge that is waited on once more.
func (j *Judge) Again() (api.Packet, api.Errno) {
	switch {
	case j == nil:
		return api.Packet{}, api.ErrNil
	case j.state != Waits:
		return api.Packet{}, api.ErrState
	}
	j.asked++
	return j.challenge(), api.OK
}

// challenge answers the last Challenge, with data that nobody else has.
func (j *Judge) challenge() api.Packet {
	p := j.last
	p.Data = bytes.Clone(p.Data)
	return p
}

// Take answers a Success, or a Failure, to a Response.
func (j *Judge) Take(p api.Packet) (api.Packet, api.Errno) {
	if j == nil {
		return api.Packet{}, api.ErrNil
	}
	return j.take(kindOf(p))
}

func (j *Judge) take(c coming) (api.Packet, api.Errno) {
	switch r := c.(type) {
	case replied:
		return j.hear(r)
	default:
		return api.Packet{}, api.ErrCode
	}
}

// hear answers a Response to the last Challenge. One that comes behind the first one is not looked at: who sent it has lost the answer.
func (j *Judge) hear(r replied) (api.Packet, api.Errno) {
	switch {
	case j.state == Idle:
		return api.Packet{}, api.ErrState
	case r.id() != j.last.Id:
		return api.Packet{}, api.ErrSeq
	case j.state == Waits:
		if e := j.decide(r); e != api.OK {
			return api.Packet{}, e
		}
	}
	return j.verdict()
}

// decide passes or refuses who sent a Response; one that can not be read decides nothing.
func (j *Judge) decide(r replied) api.Errno {
	who, e := holds(kindOf(j.last), r, j.name, j.secrets.Find)
	switch e {
	case api.OK:
		j.state, j.who = Passed, who
	case api.ErrNone, api.ErrAuth:
		j.state, j.who = Refused, ""
	default:
		return e
	}
	return api.OK
}

// verdict answers what is told who has been judged.
func (j *Judge) verdict() (api.Packet, api.Errno) {
	if j.state == Passed {
		return Told(Success, j.last.Id, "welcome")
	}
	return Told(Failure, j.last.Id, "authentication failed")
}

// State answers how far it is.
func (j *Judge) State() int {
	if j == nil {
		return Idle
	}
	return j.state
}

// Who answers the name that was proved last; none, where the last Response proved none.
func (j *Judge) Who() string {
	if j == nil {
		return ""
	}
	return j.who
}

// Asked answers how often the last Challenge was sent.
func (j *Judge) Asked() int {
	if j == nil {
		return 0
	}
	return j.asked
}
