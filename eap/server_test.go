package eap

import (
	"math"
	"slices"
	"strings"
	"testing"

	"tether/api"
	"tether/secret"
)

// secrets are lines of several kinds.
func secrets() []api.Secret {
	return []api.Secret{
		{Client: "alice", Server: "mill", Word: "x"},
		{Client: "alice", Server: "*", Word: "y"},
		{Client: "bob", Server: "mill", Word: ""},
		{Client: "carol", Server: "other", Word: "z"},
		{Client: "dave", Server: "*", Word: "pass word", Addrs: []int64{5}},
		{Client: "alice", Server: "mill", Word: "later"},
	}
}

// server answers an authenticator that is called mill.
func server(t *testing.T, tries int) *Server {
	t.Helper()
	s, e, at := NewServer("mill", secrets(), tries)
	if s == nil || e != api.OK || at != 0 {
		t.Fatal(tries, e, at)
	}
	return s
}

// is checks what an authenticator is.
func is(t *testing.T, s *Server, state int, who string) {
	t.Helper()
	if s.State() != state || s.Who() != who {
		t.Error(s.State(), s.Who(), "instead of", state, who)
	}
}

// starts checks that an authenticator asks for the identity.
func starts(t *testing.T, s *Server, id int) {
	t.Helper()
	if p, e := s.Start(); !samePacket(p, packet(1, id, "\x01")) || e != api.OK {
		t.Error(p, e)
	}
	is(t, s, Asking, "")
}

// takes checks what an authenticator answers.
func takes(t *testing.T, s *Server, p api.Packet, challenge string, want api.Packet) {
	t.Helper()
	if q, ok, e := s.Take(p, []byte(challenge)); !samePacket(q, want) || !ok || e != api.OK {
		t.Errorf("%d %q: %d %d %q %v %d", p.Id, p.Data, q.Code, q.Id, q.Data, ok, e)
	}
}

// refuses checks the error that an authenticator answers, and that it changes nothing.
func refuses(t *testing.T, s *Server, p api.Packet, want api.Errno) {
	t.Helper()
	state, who := s.State(), s.Who()
	for _, challenge := range [][]byte{nil, []byte("abc")} {
		if q, ok, e := s.Take(p, challenge); !noPacket(q) || ok || e != want {
			t.Errorf("%d %d %q: %d %d instead of %d", p.Code, p.Id, p.Data, q.Code, e, want)
		}
	}
	is(t, s, state, who)
}

// says answers a Response with a name.
func says(id int, name string) api.Packet {
	return packet(2, id, "\x01"+name)
}

// asks answers a Request of mill for a proof.
func asks(id int, challenge string) api.Packet {
	return packet(1, id, "\x04"+string([]byte{byte(len(challenge))})+challenge+"mill")
}

// proves answers a Response with a value and a name behind.
func proves(id int, value, name string) api.Packet {
	return packet(2, id, "\x04"+string([]byte{byte(len(value))})+value+name)
}

// accepted answers an authenticator that has accepted alice, at the identifier 2.
func accepted(t *testing.T) *Server {
	t.Helper()
	s := server(t, 3)
	starts(t, s, 1)
	takes(t, s, says(1, "alice"), "abc", asks(2, "abc"))
	takes(t, s, proves(2, digest(2, "x", "abc"), "alice"), "", packet(3, 2, ""))
	is(t, s, Accepted, "alice")
	return s
}

// P14.2

func TestNewServerRefuses(t *testing.T) {
	wrong := append(secrets(), api.Secret{Client: "erin", Server: "mill", Word: "\n"})
	for _, l := range [][]api.Secret{nil, secrets(), wrong} {
		for _, name := range noNames() {
			for _, tries := range []int{0, 1, 256} {
				if s, e, at := NewServer(name, l, tries); s != nil || e != api.ErrName || at != 0 {
					t.Error(name, e, at)
				}
			}
		}
		for _, tries := range []int{math.MinInt, -1, 0, 256, 257, 1<<32 + 1, math.MaxInt} {
			if s, e, at := NewServer("mill", l, tries); s != nil || e != api.ErrArg || at != 0 {
				t.Error(tries, e, at)
			}
		}
	}
	many := make([]api.Secret, api.MaxSecrets+1)
	for _, l := range [][]api.Secret{wrong, many, {{}}, {{Client: "a", Server: "b", Addrs: []int64{1, 1}}}} {
		_, want, place := secret.New(l)
		if s, e, at := NewServer("mill", l, 1); s != nil || e == api.OK || e != want || at != place {
			t.Error(e, at, want, place)
		}
	}
	if _, e, at := NewServer("mill", wrong, 255); e != api.ErrValue || at != len(wrong)-1 {
		t.Error(e, at)
	}
}

func TestNewServerIsIdle(t *testing.T) {
	for _, name := range []string{"mill", "*", " ", "~", strings.Repeat("n", 64)} {
		for _, l := range [][]api.Secret{nil, secrets()} {
			for _, tries := range []int{1, 255} {
				s, e, at := NewServer(name, l, tries)
				if e != api.OK || at != 0 {
					t.Fatal(name, tries, e, at)
				}
				is(t, s, Idle, "")
				if p, ok, e := s.Again(nil); !noPacket(p) || ok || e != api.ErrState {
					t.Error(p, ok, e)
				}
				starts(t, s, 1)
			}
		}
	}
}

func TestServerOfNil(t *testing.T) {
	var s *Server
	if p, e := s.Start(); !noPacket(p) || e != api.ErrNil {
		t.Error(p, e)
	}
	for _, challenge := range [][]byte{nil, []byte("abc")} {
		if p, ok, e := s.Again(challenge); !noPacket(p) || ok || e != api.ErrNil {
			t.Error(p, ok, e)
		}
		if p, e := s.Prove(challenge); !noPacket(p) || e != api.ErrNil {
			t.Error(p, e)
		}
	}
	for _, p := range []api.Packet{{}, says(1, "alice"), packet(1, -1, "")} {
		refuses(t, s, p, api.ErrNil)
	}
	is(t, s, Idle, "")
}

func TestStartCountsItsIdentifiers(t *testing.T) {
	s := server(t, 2)
	for i := range 600 {
		starts(t, s, (i+1)%256)
	}
}

func TestStartFromEveryState(t *testing.T) {
	s := accepted(t)
	starts(t, s, 3)
	takes(t, s, says(3, "alice"), "abc", asks(4, "abc"))
	starts(t, s, 5)
	takes(t, s, says(5, "erin"), "abc", packet(4, 5, ""))
	is(t, s, Refused, "")
	starts(t, s, 6)
	for range 3 {
		s.Again(nil)
	}
	is(t, s, Gone, "")
	starts(t, s, 7)
	takes(t, s, says(7, "dave"), "d", asks(8, "d"))
	takes(t, s, proves(8, digest(8, "pass word", "d"), ""), "", packet(3, 8, ""))
	is(t, s, Accepted, "dave")
}

// repeats checks that an authenticator sends its last request so many times more, and is Gone then.
func repeats(t *testing.T, s *Server, last api.Packet, times int) {
	t.Helper()
	state, who := s.State(), s.Who()
	for n := range times {
		p, ok, e := s.Again([][]byte{nil, []byte("other"), make([]byte, 300)}[n%3])
		if !samePacket(p, last) || !ok || e != api.OK {
			t.Fatal(n, p, ok, e)
		}
		is(t, s, state, who)
	}
	if p, ok, e := s.Again([]byte("abc")); !noPacket(p) || ok || e != api.OK {
		t.Error(p, ok, e)
	}
	is(t, s, Gone, who)
	if p, ok, e := s.Again([]byte("abc")); !noPacket(p) || ok || e != api.ErrState {
		t.Error(p, ok, e)
	}
	refuses(t, s, says(last.Id, "alice"), api.ErrState)
	refuses(t, s, proves(last.Id, digest(last.Id, "x", "abc"), "alice"), api.ErrState)
}

func TestAgain(t *testing.T) {
	for _, tries := range []int{1, 2, 10, 255} {
		s := server(t, tries)
		starts(t, s, 1)
		repeats(t, s, packet(1, 1, "\x01"), tries-1)
		starts(t, s, 2)
		for range tries - 1 { // what was tried ahead counts no more
			s.Again(nil)
		}
		takes(t, s, says(2, "alice"), "abc", asks(3, "abc"))
		repeats(t, s, asks(3, "abc"), tries-1)
		is(t, s, Gone, "")
	}
	s := accepted(t)
	if p, e := s.Prove([]byte("def")); !samePacket(p, asks(3, "def")) || e != api.OK {
		t.Error(p, e)
	}
	repeats(t, s, asks(3, "def"), 2)
	is(t, s, Gone, "alice")
}

func TestAgainRefuses(t *testing.T) {
	refused := func(s *Server) {
		t.Helper()
		state, who := s.State(), s.Who()
		if p, ok, e := s.Again([]byte("abc")); !noPacket(p) || ok || e != api.ErrState {
			t.Error(p, ok, e)
		}
		is(t, s, state, who)
	}
	s := accepted(t)
	refused(s)
	starts(t, s, 3)
	takes(t, s, says(3, ""), "abc", packet(4, 3, ""))
	refused(s)
	refused(server(t, 5))
}

// P14.3

func TestTakeAsksForTheProof(t *testing.T) {
	for _, c := range []struct{ server, name, word string }{
		{"mill", "alice", "x"}, {"other", "alice", "y"}, {"other", "carol", "z"}, {"mill", "dave", "pass word"},
	} {
		for _, challenge := range []string{"a", "abc", strings.Repeat("\xff", 255)} {
			s, _, _ := NewServer(c.server, secrets(), 2)
			starts(t, s, 1)
			takes(t, s, says(1, c.name), challenge, packet(1, 2, "\x04"+string([]byte{byte(len(challenge))})+challenge+c.server))
			is(t, s, Proving, "")
			for _, behind := range []string{"", c.name, "somebody else\n"} {
				again := *s
				takes(t, &again, proves(2, digest(2, c.word, challenge), behind), "", packet(3, 2, ""))
				is(t, &again, Accepted, c.name)
			}
		}
	}
}

func TestTakeRefusesNamesWithoutAWord(t *testing.T) {
	l := append(secrets(), api.Secret{Client: "*", Server: "other", Word: "w"})
	for _, c := range []struct{ server, name string }{
		{"mill", "bob"}, {"mill", "carol"}, {"mill", "erin"}, {"mill", "Alice"}, {"mill", "*"}, {"*", "alice"}, {"other", "*"},
	} {
		s, _, _ := NewServer(c.server, l, 2)
		starts(t, s, 1)
		takes(t, s, says(1, c.name), "abc", packet(4, 1, ""))
		is(t, s, Refused, "")
	}
	for _, name := range noNames() {
		s, _, _ := NewServer("other", l, 2)
		starts(t, s, 1)
		takes(t, s, says(1, name), "abc", packet(4, 1, ""))
		is(t, s, Refused, "")
	}
	for _, name := range []string{"a", " ", "~", "#", strings.Repeat("n", 64)} {
		s, _, _ := NewServer("other", l, 2)
		starts(t, s, 1)
		takes(t, s, says(1, name), "abc", packet(1, 2, "\x04\x03abcother"))
		is(t, s, Proving, "")
	}
}

func TestTakeRefusesWithoutAChallengeThatCanBe(t *testing.T) {
	for _, challenge := range []string{"", strings.Repeat("c", 256), strings.Repeat("c", 1<<17)} {
		s := server(t, 2)
		starts(t, s, 1)
		takes(t, s, says(1, "alice"), challenge, packet(4, 1, ""))
		is(t, s, Refused, "")
	}
}

// strays are Responses to the request with an identifier which say neither a name nor a proof.
func strays(id int) []api.Packet {
	return []api.Packet{
		packet(2, id, "\x02"), packet(2, id, "\x02alice"), packet(2, id, "\x03\x00"), packet(2, id, "\x03\x04"),
		packet(2, id, "\x00alice"), packet(2, id, "\x05alice"), packet(2, id, "\xff"),
	}
}

func TestTakeRefusesWhatWasNotAskedFor(t *testing.T) {
	for _, p := range append(strays(1), proves(1, digest(1, "x", "abc"), "alice"), proves(1, "v", "")) {
		s := server(t, 2)
		starts(t, s, 1)
		takes(t, s, p, "abc", packet(4, 1, ""))
		is(t, s, Refused, "")
	}
	s, _, _ := NewServer("mill", []api.Secret{{Client: "*", Server: "mill", Word: "w"}}, 2)
	starts(t, s, 1)
	takes(t, s, proves(1, digest(1, "w", ""), "alice"), "abc", packet(4, 1, "")) // the digest of no challenge, by nobody
	is(t, s, Refused, "")
	right := digest(2, "x", "abc")
	wrong := append(strays(2), says(2, "alice"), says(2, right))
	for _, value := range []string{right[:15], right[1:], right + "\x00", "\x00" + right, "v", digest(2, "y", "abc"), digest(2, "later", "abc"), digest(2, "", "abc"), digest(1, "x", "abc"), digest(3, "x", "abc"), digest(2, "x", "abd"), digest(2, "x", "abcmill")} {
		wrong = append(wrong, proves(2, value, "alice"))
	}
	for i := range 128 {
		b := []byte(right)
		b[i/8] ^= 1 << (i % 8)
		wrong = append(wrong, proves(2, string(b), "alice"))
	}
	for _, p := range wrong {
		s := server(t, 2)
		starts(t, s, 1)
		takes(t, s, says(1, "alice"), "abc", asks(2, "abc"))
		takes(t, s, p, "abc", packet(4, 2, ""))
		is(t, s, Refused, "")
	}
}

// deaf checks that an authenticator, whose last request has an identifier, is not changed by what is no Response to it.
func deaf(t *testing.T, s *Server, id int) {
	t.Helper()
	for want, l := range unread() {
		for _, p := range l {
			if p.Id == 7 {
				p.Id = id
			}
			refuses(t, s, p, want)
		}
	}
	for _, p := range []api.Packet{packet(1, id, "\x01"), packet(1, 9, "\x04\x03abc"), packet(3, id, ""), packet(4, 9, "")} {
		refuses(t, s, p, api.ErrCode)
	}
	want := api.ErrState
	if s.State() == Asking || s.State() == Proving {
		want = api.ErrArg
	} else {
		refuses(t, s, says(id, "alice"), want)
		refuses(t, s, proves(id, digest(id, "x", "abc"), "alice"), want)
	}
	for _, other := range []int{id - 1, id + 1, 255} {
		refuses(t, s, says(other, "alice"), want)
		refuses(t, s, proves(other, digest(other, "x", "abc"), "alice"), want)
		refuses(t, s, packet(2, other, "\x05"), want)
	}
}

func TestTakeIsDeafToAllElse(t *testing.T) {
	s := server(t, 3)
	deaf(t, s, 1)
	starts(t, s, 1)
	deaf(t, s, 1)
	takes(t, s, says(1, "alice"), "abc", asks(2, "abc"))
	deaf(t, s, 2)
	takes(t, s, proves(2, digest(2, "x", "abc"), "alice"), "abc", packet(3, 2, ""))
	is(t, s, Accepted, "alice")
	deaf(t, s, 2)
	if p, e := s.Prove([]byte("def")); !samePacket(p, asks(3, "def")) || e != api.OK {
		t.Error(p, e)
	}
	deaf(t, s, 3)
	takes(t, s, proves(3, "v", "alice"), "abc", packet(4, 3, ""))
	is(t, s, Refused, "")
	deaf(t, s, 3)
}

func TestProve(t *testing.T) {
	s := accepted(t)
	for i := range 600 {
		id := (3 + i) % 256
		if p, e := s.Prove([]byte("def")); !samePacket(p, asks(id, "def")) || e != api.OK {
			t.Fatal(i, p, e)
		}
		is(t, s, Proving, "alice")
		takes(t, s, proves(id, digest(id, "x", "def"), ""), "", packet(3, id, ""))
		is(t, s, Accepted, "alice")
	}
	long := strings.Repeat("c", 255)
	if p, e := s.Prove([]byte(long)); !samePacket(p, asks(91, long)) || e != api.OK {
		t.Error(p, e)
	}
	takes(t, s, proves(91, digest(91, "y", long), "alice"), "", packet(4, 91, ""))
	is(t, s, Refused, "")
}

func TestProveRefuses(t *testing.T) {
	refused := func(s *Server, challenge []byte, want api.Errno) {
		t.Helper()
		state, who := s.State(), s.Who()
		if p, e := s.Prove(challenge); !noPacket(p) || e != want {
			t.Error(p, e)
		}
		is(t, s, state, who)
	}
	everywhere := func(s *Server) {
		t.Helper()
		for _, challenge := range [][]byte{nil, []byte("abc"), make([]byte, 256)} {
			refused(s, challenge, api.ErrState)
		}
	}
	s := server(t, 1)
	everywhere(s)
	starts(t, s, 1)
	everywhere(s)
	takes(t, s, says(1, "alice"), "abc", asks(2, "abc"))
	everywhere(s)
	s.Again(nil)
	everywhere(s)
	starts(t, s, 3)
	takes(t, s, says(3, "erin"), "abc", packet(4, 3, ""))
	everywhere(s)
	s = accepted(t)
	for _, challenge := range [][]byte{nil, {}, make([]byte, 256), make([]byte, 1<<17)} {
		refused(s, challenge, api.ErrArg)
	}
	if p, e := s.Prove([]byte("d")); !samePacket(p, asks(3, "d")) || e != api.OK { // no identifier was lost
		t.Error(p, e)
	}
}

// P14.8

func TestIdentifiersGoRound(t *testing.T) {
	s := server(t, 2)
	for i := 1; i < 255; i++ {
		starts(t, s, i)
	}
	starts(t, s, 255)
	takes(t, s, says(255, "alice"), "abc", asks(0, "abc"))
	takes(t, s, proves(0, digest(0, "x", "abc"), "alice"), "", packet(3, 0, ""))
	is(t, s, Accepted, "alice")
	if p, e := s.Prove([]byte("d")); !samePacket(p, asks(1, "d")) || e != api.OK {
		t.Error(p, e)
	}
}

func TestServerKeepsNothingThatIsHandedIn(t *testing.T) {
	l, challenge := secrets(), []byte("abc")
	s, _, _ := NewServer("mill", l, 9)
	l[0].Word, l[0].Client = "changed", "changed"
	p, _ := s.Start()
	clear(p.Data)
	p, _, _ = s.Again(nil)
	if !samePacket(p, packet(1, 1, "\x01")) {
		t.Error(p)
	}
	r := says(1, "alice")
	q, _, _ := s.Take(r, challenge)
	if string(r.Data) != "\x01alice" || string(challenge) != "abc" {
		t.Error(r, challenge)
	}
	clear(r.Data)
	clear(challenge)
	clear(q.Data)
	p, _, _ = s.Again(nil)
	kept := slices.Clone(p.Data)
	_ = append(p.Data[:2], "zzzzzz"...)
	if again, _, _ := s.Again(nil); !samePacket(again, asks(2, "abc")) || !slices.Equal(kept, again.Data) {
		t.Error(again)
	}
	takes(t, s, proves(2, digest(2, "x", "abc"), ""), "", packet(3, 2, ""))
	is(t, s, Accepted, "alice")
}

// P1

func TestAServerThatNewServerDidNotMakeAcceptsNobody(t *testing.T) {
	var s Server
	starts(t, &s, 1)
	takes(t, &s, says(1, "alice"), "abc", packet(4, 1, ""))
	is(t, &s, Refused, "")
	if p, e := s.Prove([]byte("abc")); !noPacket(p) || e != api.ErrState {
		t.Error(p, e)
	}
	starts(t, &s, 2)
	if p, ok, e := s.Again(nil); !noPacket(p) || ok || e != api.OK {
		t.Error(p, ok, e)
	}
}
