package pap

import (
	"strings"
	"testing"

	"tether/api"
	"tether/secret"
)

// secrets are lines of several kinds.
func secrets() []api.Secret {
	return []api.Secret{
		{Client: "alice", Server: "mill", Word: "x"},
		{Client: "alice", Server: "*", Word: "y"},
		{Client: "bob", Server: "mill", Word: ""},
		{Client: "carol", Server: "other", Word: "z"},
		{Client: "dave", Server: "*", Word: "pass word", Addrs: []int64{5}},
		{Client: "alice", Server: "mill", Word: "later"},
	}
}

// server answers an authenticator that can be.
func server(t *testing.T, name string, l []api.Secret) *Server {
	t.Helper()
	s, e, at := NewServer(name, l)
	if s == nil || e != api.OK || at != 0 {
		t.Fatal(name, e, at)
	}
	return s
}

// says answers a request.
func says(t *testing.T, id int, name, word string) api.Packet {
	t.Helper()
	p, e := Request(id, name, word)
	if e != api.OK {
		t.Fatal(e)
	}
	return p
}

// is checks what an authenticator is.
func is(t *testing.T, s *Server, state int, who string) {
	t.Helper()
	if s.State() != state || s.Who() != who {
		t.Error(s.State(), s.Who(), "instead of", state, who)
	}
}

// takes checks what an authenticator answers to a request.
func takes(t *testing.T, s *Server, p api.Packet, want api.Packet) {
	t.Helper()
	if q, ok, e := s.Take(p); !samePacket(q, want) || !ok || e != api.OK {
		t.Errorf("%d %q: %d %q %v %d", p.Id, p.Data, q.Code, q.Data, ok, e)
	}
}

func welcome(id int) api.Packet {
	return packet(2, id, "\x07welcome")
}

func refused(id int) api.Packet {
	return packet(3, id, "\x07refused")
}

// noNames can not be names.
func noNames() []string {
	return []string{"", "a\"", "a\\", "\n", "a\x7f", "\xff", "ä", strings.Repeat("n", 65), strings.Repeat("n", 255)}
}

// P12.2

func TestNewServerRefuses(t *testing.T) {
	wrong := append(secrets(), api.Secret{Client: "erin", Server: "mill", Word: "\n"})
	for _, name := range noNames() {
		for _, l := range [][]api.Secret{nil, wrong} {
			if s, e, at := NewServer(name, l); s != nil || e != api.ErrName || at != 0 {
				t.Error(name, e, at)
			}
		}
	}
	many := make([]api.Secret, api.MaxSecrets+1)
	for _, l := range [][]api.Secret{wrong, many, {{}}, {{Client: "a", Server: "b", Addrs: []int64{1, 1}}}} {
		_, want, place := secret.New(l)
		if s, e, at := NewServer("mill", l); s != nil || e == api.OK || e != want || at != place {
			t.Error(e, at, want, place)
		}
	}
	if _, e, at := NewServer("mill", wrong); e != api.ErrValue || at != len(wrong)-1 {
		t.Error(e, at)
	}
}

func TestNewServerWaits(t *testing.T) {
	for _, name := range []string{"mill", "*", " ", "~", strings.Repeat("n", 64)} {
		for _, l := range [][]api.Secret{nil, secrets()} {
			is(t, server(t, name, l), Wait, "")
		}
	}
}

func TestServerAccepts(t *testing.T) {
	for _, c := range []struct{ server, name, word string }{
		{"mill", "alice", "x"}, {"other", "alice", "y"}, {"other", "carol", "z"}, {"mill", "dave", "pass word"}, {"x", "dave", "pass word"},
	} {
		for _, id := range []int{0, 7, 255} {
			s := server(t, c.server, secrets())
			takes(t, s, says(t, id, c.name, c.word), welcome(id))
			is(t, s, Accepted, c.name)
		}
	}
}

func TestServerRefuses(t *testing.T) {
	for _, c := range []struct{ server, name, word string }{
		{"mill", "alice", "y"}, // of a line that is not the best
		{"mill", "alice", "later"},
		{"mill", "alice", ""},
		{"mill", "alice", "X"},
		{"mill", "alice", "x "},
		{"mill", "alice", "xx"},
		{"mill", "Alice", "x"},
		{"mill", "bob", ""}, // a word that is empty is nobody's
		{"mill", "bob", "x"},
		{"mill", "carol", "z"},
		{"mill", "erin", "x"},
		{"mill", "*", "y"},
		{"*", "alice", "y"},
		{"mill", "dave", "pass"},
		{"mill", "", "x"},
		{"mill", strings.Repeat("n", 255), strings.Repeat("w", 255)},
	} {
		s := server(t, c.server, secrets())
		takes(t, s, says(t, 7, c.name, c.word), refused(7))
		is(t, s, Refused, "")
	}
}

func TestServerRefusesNamesThatCanNotBe(t *testing.T) {
	l := []api.Secret{{Client: "*", Server: "mill", Word: "x"}}
	for _, name := range noNames() {
		s := server(t, "mill", l)
		takes(t, s, says(t, 7, name, "x"), refused(7))
		is(t, s, Refused, "")
	}
	for _, name := range []string{"a", " ", "~", "#", strings.Repeat("n", 64)} {
		s := server(t, "mill", l)
		takes(t, s, says(t, 7, name, "x"), welcome(7))
		is(t, s, Accepted, name)
	}
}

func TestServerAnswersOnceMoreAsItDid(t *testing.T) {
	s := server(t, "mill", secrets())
	takes(t, s, says(t, 7, "alice", "x"), welcome(7))
	for i, p := range []api.Packet{says(t, 7, "alice", "x"), says(t, 8, "alice", "wrong"), says(t, 0, "dave", "pass word"), says(t, 255, "", "")} {
		takes(t, s, p, welcome(p.Id))
		is(t, s, Accepted, "alice")
		if t.Failed() {
			t.Fatal(i)
		}
	}
	s = server(t, "mill", secrets())
	takes(t, s, says(t, 7, "alice", "y"), refused(7))
	for _, p := range []api.Packet{says(t, 7, "alice", "x"), says(t, 8, "dave", "pass word")} {
		takes(t, s, p, refused(p.Id))
		is(t, s, Refused, "")
	}
}

func TestServerReset(t *testing.T) {
	s := server(t, "mill", secrets())
	for range 3 {
		takes(t, s, says(t, 7, "alice", "x"), welcome(7))
		s.Reset()
		is(t, s, Wait, "")
		takes(t, s, says(t, 8, "alice", "y"), refused(8))
		s.Reset()
		is(t, s, Wait, "")
		s.Reset()
		takes(t, s, says(t, 9, "dave", "pass word"), welcome(9))
		is(t, s, Accepted, "dave")
		s.Reset()
	}
}

func TestServerKeepsNothingThatIsHandedIn(t *testing.T) {
	l := secrets()
	s := server(t, "mill", l)
	l[0].Word, l[0].Client = "changed", "changed"
	p := says(t, 7, "alice", "x")
	first, _, _ := s.Take(p)
	second, _, _ := s.Take(p)
	clear(first.Data)
	if !samePacket(second, welcome(7)) || string(p.Data) != "\x05alice\x01x" {
		t.Error(second, p)
	}
	clear(p.Data)
	takes(t, s, says(t, 9, "alice", "x"), welcome(9))
	is(t, s, Accepted, "alice")
}

func TestServerOfNil(t *testing.T) {
	var s *Server
	for _, p := range []api.Packet{{}, says(t, 7, "alice", "x"), packet(1, -1, "")} {
		if q, ok, e := s.Take(p); !noPacket(q) || ok || e != api.ErrNil {
			t.Error(q, ok, e)
		}
	}
	s.Reset()
	is(t, s, Wait, "")
}

// P12.6

// noRequests are packets that an authenticator can not read, and the errors.
func noRequests() map[api.Errno][]api.Packet {
	return map[api.Errno][]api.Packet{
		api.ErrArg:   {packet(1, -1, "\x05alice\x01x"), packet(1, 256, ""), packet(2, 256, "")},
		api.ErrCode:  {packet(2, 7, "\x05alice\x01x"), packet(0, 7, ""), packet(3, 0, "")},
		api.ErrShort: {packet(1, 7, ""), packet(1, 7, "\x05alice"), packet(1, 7, "\x05alice\x02x")},
		api.ErrForm:  {packet(1, 7, "\x05alice\x01xy"), packet(1, 7, "\x00\x00\x00")},
	}
}

// deaf checks that no packet that can not be read changes an authenticator.
func deaf(t *testing.T, s *Server) {
	t.Helper()
	state, who := s.State(), s.Who()
	for want, l := range noRequests() {
		for _, p := range l {
			if q, ok, e := s.Take(p); !noPacket(q) || ok || e != want {
				t.Error(p, q, ok, e)
			}
			is(t, s, state, who)
		}
	}
}

func TestServerIsNotChangedByWhatIsNoRequest(t *testing.T) {
	s := server(t, "mill", secrets())
	deaf(t, s)
	takes(t, s, says(t, 7, "alice", "x"), welcome(7))
	deaf(t, s)
	takes(t, s, says(t, 8, "alice", "x"), welcome(8))
	s.Reset()
	takes(t, s, says(t, 7, "alice", "y"), refused(7))
	deaf(t, s)
	takes(t, s, says(t, 8, "alice", "y"), refused(8))
}

// P12.5

func TestServerAcceptsJustTheWordOfTheBestLine(t *testing.T) {
	var d draws = 3
	names := []string{"a", "b", "*", "", "c\n"}
	words := []string{"x", "y", ""}
	accepted := 0
	for range 20000 {
		var l []api.Secret
		for range d.next(4) {
			l = append(l, api.Secret{Client: names[d.next(3)], Server: names[d.next(3)], Word: words[d.next(3)]})
		}
		mine, name, word := names[d.next(3)], names[d.next(5)], words[d.next(3)]
		s := server(t, mine, l)
		best, ok := secret.Find(l, name, mine)
		if ok && best.Word == word && word != "" && name != "" && name != "c\n" {
			accepted++
			takes(t, s, says(t, 5, name, word), welcome(5))
			is(t, s, Accepted, name)
			takes(t, s, says(t, 6, name, words[d.next(3)]), welcome(6))
			is(t, s, Accepted, name)
		} else {
			takes(t, s, says(t, 5, name, word), refused(5))
			is(t, s, Refused, "")
			takes(t, s, says(t, 6, name, best.Word), refused(6))
			is(t, s, Refused, "")
		}
		if t.Failed() {
			t.Fatal(l, mine, name, word)
		}
	}
	if accepted < 300 {
		t.Error(accepted)
	}
}

func TestPeerAndServerAreAccepted(t *testing.T) {
	for _, c := range []struct {
		name, word string
		state      int
		message    string
	}{
		{"alice", "x", Accepted, "welcome"}, {"dave", "pass word", Accepted, "welcome"}, {"alice", "y", Refused, "refused"}, {"erin", "x", Refused, "refused"},
	} {
		for lost := range 5 { // so many answers are lost ahead of one that comes
			s, p := server(t, "mill", secrets()), peer(t, c.name, c.word, 5)
			for n := range lost + 1 {
				q, ok, e := p.Send()
				if !ok || e != api.OK {
					t.Fatal(n, ok, e)
				}
				a, ok, e := s.Take(q)
				if !ok || e != api.OK {
					t.Fatal(n, ok, e)
				}
				if n == lost {
					if ok, e := p.Take(a); ok != (c.state == Accepted) || e != api.OK {
						t.Error(ok, e)
					}
				}
			}
			if s.State() != c.state || p.State() != c.state || p.Message() != c.message {
				t.Error(c.name, s.State(), p.State(), p.Message())
			}
		}
	}
}
