package eap

import (
	"bytes"

	"tether/api"
	"tether/md5"
	"tether/secret"
	"tether/spell"
)

// Server is an authenticator.
type Server struct {
	name    string
	secrets *secret.Table
	tries   int
	state   int
	last    api.Packet // the last request
	tried   int        // how often it was sent
	claimed string     // the name that the other end says
	who     string
}

// NewServer answers an authenticator in Idle, or the first secret that can not be.
func NewServer(name string, l []api.Secret, tries int) (*Server, api.Errno, int) {
	switch {
	case !spell.Name(name):
		return nil, api.ErrName, 0
	case tries < 1 || tries > most:
		return nil, api.ErrArg, 0
	}
	t, e, at := secret.New(l)
	if e != api.OK {
		return nil, e, at
	}
	return &Server{name: name, secrets: t, tries: tries}, api.OK, 0
}

// Start asks for the identity, whatever it did before.
func (s *Server) Start() (api.Packet, api.Errno) {
	if s == nil {
		return api.Packet{}, api.ErrNil
	}
	s.claimed, s.who = "", ""
	return s.ask(Asking, Message{Type: ofIdentity}), api.OK
}

// Again answers the last request once more; false, if it was sent as often as it may. The challenge is none for it: the request has its own.
func (s *Server) Again(challenge []byte) (api.Packet, bool, api.Errno) {
	switch {
	case s == nil:
		return api.Packet{}, false, api.ErrNil
	case !s.waits():
		return api.Packet{}, false, api.ErrState
	case s.tried >= s.tries:
		s.state = Gone
		return api.Packet{}, false, api.OK
	}
	s.tried++
	return s.request(), true, api.OK
}

// Take answers what follows on a response: a request for the proof, with that challenge, or Success, or Failure.
func (s *Server) Take(p api.Packet, challenge []byte) (api.Packet, bool, api.Errno) {
	if s == nil {
		return api.Packet{}, false, api.ErrNil
	}
	m, e := Read(p)
	switch {
	case e != api.OK:
		return api.Packet{}, false, e
	case m.Code != response:
		return api.Packet{}, false, api.ErrCode
	case !s.waits():
		return api.Packet{}, false, api.ErrState
	case m.Id != s.last.Id:
		return api.Packet{}, false, api.ErrArg
	}
	return s.judge(kindOf(m), challenge), true, api.OK
}

// judge answers what follows on a response to the last request. All that is not what it was asked for is refused.
func (s *Server) judge(k kind, challenge []byte) api.Packet {
	switch r := k.(type) {
	case identity:
		if s.state == Asking && s.known(r.Text) && challengeRight(challenge) {
			s.claimed = r.Text
			return s.challenge(challenge)
		}
	case proof:
		if s.state == Proving && s.proved(r.Value) {
			s.state, s.who = Accepted, s.claimed
			return api.Packet{Code: success, Id: r.Id}
		}
	}
	s.state, s.who = Refused, ""
	return api.Packet{Code: failure, Id: s.last.Id}
}

// known tells whether there is a word for who says that name.
func (s *Server) known(name string) bool {
	_, ok := wordOf(s.secrets, name, s.name)
	return ok && spell.Name(name)
}

// proved tells whether value is what is due to the last request.
func (s *Server) proved(value []byte) bool {
	asked, e := Read(s.last)
	right, ok := due(s.secrets, s.claimed, s.name, asked.Id, asked.Value)
	return e == api.OK && ok && md5.Equal(value, right)
}

// Prove asks who was accepted for another proof.
func (s *Server) Prove(challenge []byte) (api.Packet, api.Errno) {
	switch {
	case s == nil:
		return api.Packet{}, api.ErrNil
	case s.state != Accepted:
		return api.Packet{}, api.ErrState
	case !challengeRight(challenge):
		return api.Packet{}, api.ErrArg
	}
	return s.challenge(challenge), api.OK
}

// challenge asks for the proof.
func (s *Server) challenge(value []byte) api.Packet {
	return s.ask(Proving, Message{Type: ofProof, Value: value, Text: s.name})
}

// ask answers a new request, whose answer is waited for in that state from now on.
func (s *Server) ask(state int, m Message) api.Packet {
	m.Code, m.Id = request, (s.last.Id+1)%(most+1)
	s.last, _ = Write(m) // of what an authenticator asks nothing can be wrong
	s.state, s.tried = state, 1
	return s.request()
}

// request answers the last request, with data that nobody else has.
func (s *Server) request() api.Packet {
	p := s.last
	p.Data = bytes.Clone(p.Data)
	return p
}

func (s *Server) waits() bool {
	return s.state == Asking || s.state == Proving
}

// State answers what it is.
func (s *Server) State() int {
	if s == nil {
		return Idle
	}
	return s.state
}

// Who answers the name that was accepted last.
func (s *Server) Who() string {
	if s == nil {
		return ""
	}
	return s.who
}
