package pap

import (
	"tether/api"
	"tether/secret"
	"tether/spell"
)

// Server is an authenticator.
type Server struct {
	name    string
	secrets *secret.Table
	state   int
	who     string
	answer  func(id int) (api.Packet, api.Errno) // to each request behind the first one; none in Wait
}

// NewServer answers an authenticator in Wait, or the first secret that can not be.
func NewServer(name string, l []api.Secret) (*Server, api.Errno, int) {
	if !spell.Name(name) {
		return nil, api.ErrName, 0
	}
	t, e, at := secret.New(l)
	if e != api.OK {
		return nil, e, at
	}
	return &Server{name: name, secrets: t}, api.OK, 0
}

// Take answers the answer to a request, and true.
func (s *Server) Take(p api.Packet) (api.Packet, bool, api.Errno) {
	if s == nil {
		return api.Packet{}, false, api.ErrNil
	}
	name, word, e := ReadRequest(p)
	if e != api.OK {
		return api.Packet{}, false, e
	}
	if s.answer == nil {
		s.judge(name, word)
	}
	q, e := s.answer(p.Id)
	return q, e == api.OK, e
}

// judge accepts or refuses who says that name and that word. A name that can not be is refused, also where a line holds for any.
func (s *Server) judge(name, word string) {
	if spell.Name(name) && s.secrets.Check(name, s.name, word) == api.OK {
		s.state, s.who, s.answer = Accepted, name, answering(true, "welcome")
		return
	}
	s.state, s.who, s.answer = Refused, "", answering(false, "refused")
}

// answering answers what makes the same answer to each request that comes, with that one's identifier: a peer whose answer was lost asks with another one.
func answering(ok bool, message string) func(id int) (api.Packet, api.Errno) {
	return func(id int) (api.Packet, api.Errno) { return Answer(id, ok, message) }
}

// State answers what it is.
func (s *Server) State() int {
	if s == nil {
		return Wait
	}
	return s.state
}

// Who answers the name that it has accepted.
func (s *Server) Who() string {
	if s == nil {
		return ""
	}
	return s.who
}

// Reset lets it wait again.
func (s *Server) Reset() {
	if s != nil {
		s.state, s.who, s.answer = Wait, "", nil
	}
}
