package eap

import (
	"strings"
	"testing"

	"tether/api"
	"tether/secret"
)

// peer answers one that is called name.
func peer(t *testing.T, name string) *Peer {
	t.Helper()
	p, e, at := NewPeer(name, secrets())
	if p == nil || e != api.OK || at != 0 {
		t.Fatal(name, e, at)
	}
	return p
}

// answers checks what a peer answers, and is then.
func answers(t *testing.T, p *Peer, q, want api.Packet, state int) {
	t.Helper()
	notice := p.Notice()
	if r, ok, e := p.Take(q); !samePacket(r, want) || !ok || e != api.OK {
		t.Errorf("%d %q: %d %d %q %v %d", q.Id, q.Data, r.Code, r.Id, r.Data, ok, e)
	}
	if p.State() != state || p.Notice() != notice {
		t.Error(p.State(), p.Notice(), "instead of", state, notice)
	}
}

// hears checks what comes of a Success, or a Failure.
func hears(t *testing.T, p *Peer, q api.Packet, want api.Errno, state int) {
	t.Helper()
	notice := p.Notice()
	if r, ok, e := p.Take(q); !noPacket(r) || ok || e != want {
		t.Error(q, r, ok, e)
	}
	if p.State() != state || p.Notice() != notice {
		t.Error(p.State(), p.Notice(), "instead of", state, notice)
	}
}

// P14.4

func TestNewPeer(t *testing.T) {
	wrong := append(secrets(), api.Secret{Client: "erin", Server: "mill", Word: "\n"})
	for _, l := range [][]api.Secret{nil, secrets(), wrong} {
		for _, name := range noNames() {
			if p, e, at := NewPeer(name, l); p != nil || e != api.ErrName || at != 0 {
				t.Error(name, e, at)
			}
		}
	}
	many := make([]api.Secret, api.MaxSecrets+1)
	for _, l := range [][]api.Secret{wrong, many, {{}}, {{Client: "a", Server: "b", Addrs: []int64{1, 1}}}} {
		_, want, place := secret.New(l)
		if p, e, at := NewPeer("alice", l); p != nil || e == api.OK || e != want || at != place {
			t.Error(e, at, want, place)
		}
	}
	if _, e, at := NewPeer("alice", wrong); e != api.ErrValue || at != len(wrong)-1 {
		t.Error(e, at)
	}
	for _, name := range []string{"alice", "*", " ", "~", strings.Repeat("n", 64)} {
		if p := peer(t, name); p.State() != Idle || p.Notice() != "" {
			t.Error(p.State(), p.Notice())
		}
	}
}

func TestPeerOfNil(t *testing.T) {
	var p *Peer
	for _, q := range []api.Packet{{}, packet(1, 1, "\x01"), packet(1, -1, ""), packet(4, 1, "")} {
		hears(t, p, q, api.ErrNil, Idle)
	}
}

func TestPeerSaysItsName(t *testing.T) {
	for _, name := range []string{"alice", "*", strings.Repeat("n", 64)} {
		p := peer(t, name)
		for _, id := range []int{0, 7, 255} {
			answers(t, p, packet(1, id, "\x01"), says(id, name), Asking)
			answers(t, p, packet(1, id, "\x01who\n?"), says(id, name), Asking)
		}
	}
}

func TestPeerHearsANotice(t *testing.T) {
	p := peer(t, "alice")
	for i, text := range []string{"hear", "", "\x00\xff\n", strings.Repeat("t", api.MaxData-1)} {
		if r, ok, e := p.Take(packet(1, i, "\x02"+text)); !samePacket(r, packet(2, i, "\x02")) || !ok || e != api.OK {
			t.Error(r, ok, e)
		}
		if p.State() != Idle || p.Notice() != text {
			t.Error(p.State(), p.Notice())
		}
	}
	p.Take(packet(1, 8, "\x02last"))
	answers(t, p, asks(9, "abc"), proves(9, digest(9, "x", "abc"), "alice"), Proving)
	p.Take(packet(1, 9, "\x02behind"))
	if p.State() != Proving || p.Notice() != "behind" {
		t.Error(p.State(), p.Notice())
	}
}

func TestPeerProves(t *testing.T) {
	long := strings.Repeat("\x80", 255)
	for _, c := range []struct{ name, server, word string }{
		{"alice", "mill", "x"}, {"alice", "other", "y"}, {"alice", "", "y"}, {"alice", "\n", "y"}, {"carol", "other", "z"}, {"dave", "whoever", "pass word"},
	} {
		p := peer(t, c.name)
		for _, id := range []int{0, 7, 255} {
			for _, challenge := range []string{"a", "abc", long} {
				q := packet(1, id, "\x04"+string([]byte{byte(len(challenge))})+challenge+c.server)
				answers(t, p, q, proves(id, digest(id, c.word, challenge), c.name), Proving)
			}
		}
	}
}

func TestPeerSaysNo(t *testing.T) {
	for _, c := range []struct{ name, server string }{
		{"bob", "mill"}, {"carol", "mill"}, {"carol", ""}, {"erin", "mill"}, {"*", "mill"}, {"alice", "*"},
	} {
		p := peer(t, c.name)
		answers(t, p, packet(1, 7, "\x04\x03abc"+c.server), packet(2, 7, "\x03\x00"), Idle)
		answers(t, p, packet(1, 8, "\x01"), says(8, c.name), Asking)
		answers(t, p, packet(1, 9, "\x04\x03abc"+c.server), packet(2, 9, "\x03\x00"), Asking)
	}
	p := peer(t, "alice")
	for kind := range 256 {
		if kind >= 1 && kind <= 4 {
			continue
		}
		for _, rest := range []string{"", "\x03abc"} {
			answers(t, p, packet(1, kind, string([]byte{byte(kind)})+rest), packet(2, kind, "\x03\x04"), Idle)
		}
	}
	answers(t, p, asks(7, "abc"), proves(7, digest(7, "x", "abc"), "alice"), Proving)
	answers(t, p, packet(1, 8, "\x05"), packet(2, 8, "\x03\x04"), Proving)
	answers(t, p, packet(1, 9, "\x04\x03abc*"), packet(2, 9, "\x03\x00"), Proving)
}

func TestPeerHearsSuccessAndFailure(t *testing.T) {
	p := peer(t, "alice")
	hears(t, p, packet(3, 7, ""), api.ErrState, Idle)
	answers(t, p, packet(1, 1, "\x01"), says(1, "alice"), Asking)
	hears(t, p, packet(3, 1, ""), api.ErrState, Asking)
	answers(t, p, asks(2, "abc"), proves(2, digest(2, "x", "abc"), "alice"), Proving)
	hears(t, p, packet(3, 2, ""), api.OK, Accepted)
	hears(t, p, packet(3, 2, ""), api.ErrState, Accepted)
	answers(t, p, asks(3, "def"), proves(3, digest(3, "x", "def"), "alice"), Proving)
	hears(t, p, packet(4, 3, ""), api.OK, Refused)
	hears(t, p, packet(3, 3, ""), api.ErrState, Refused)
	answers(t, p, asks(4, "d"), proves(4, digest(4, "x", "d"), "alice"), Proving)
	hears(t, p, packet(3, 200, ""), api.OK, Accepted) // whatever its identifier is
	answers(t, p, packet(1, 5, "\x01"), says(5, "alice"), Asking)
	for range 2 {
		hears(t, p, packet(4, 200, ""), api.OK, Refused)
	}
	hears(t, peer(t, "alice"), packet(4, 0, ""), api.OK, Refused)
}

func TestPeerIsDeafToAllElse(t *testing.T) {
	deaf := func(p *Peer) {
		t.Helper()
		for want, l := range unread() {
			for _, q := range l {
				hears(t, p, q, want, p.State())
			}
		}
		for _, q := range []api.Packet{says(7, "alice"), packet(2, 0, "\x02"), packet(2, 255, "\x03\x04"), proves(7, "v", ""), packet(2, 7, "\x05")} {
			hears(t, p, q, api.ErrCode, p.State())
		}
	}
	p := peer(t, "alice")
	deaf(p)
	p.Take(packet(1, 7, "\x02heard"))
	answers(t, p, packet(1, 7, "\x01"), says(7, "alice"), Asking)
	deaf(p)
	answers(t, p, asks(7, "abc"), proves(7, digest(7, "x", "abc"), "alice"), Proving)
	deaf(p)
	hears(t, p, packet(3, 7, ""), api.OK, Accepted)
	deaf(p)
	hears(t, p, packet(4, 7, ""), api.OK, Refused)
	deaf(p)
}

func TestPeerKeepsNothingThatIsHandedIn(t *testing.T) {
	l := secrets()
	p, _, _ := NewPeer("alice", l)
	l[0].Word, l[0].Client = "changed", "changed"
	q := asks(7, "abc")
	first, _, _ := p.Take(q)
	clear(first.Data)
	answers(t, p, q, proves(7, digest(7, "x", "abc"), "alice"), Proving)
	if !samePacket(q, asks(7, "abc")) {
		t.Error(q)
	}
	n := packet(1, 8, "\x02heard")
	p.Take(n)
	clear(n.Data)
	if p.Notice() != "heard" {
		t.Error(p.Notice())
	}
}

// P14.6, P14.7, P10

// talk lets an authenticator and a peer speak, until one of them has no more to say.
func talk(t *testing.T, s *Server, p *Peer, q api.Packet, challenge []byte) {
	t.Helper()
	for range 9 {
		r, ok, e := p.Take(q)
		if e != api.OK {
			t.Fatal(q, e)
		}
		if !ok {
			return
		}
		if q, ok, e = s.Take(r, challenge); !ok || e != api.OK {
			t.Fatal(r, ok, e)
		}
	}
	t.Fatal("they speak for ever")
}

func TestServerAndPeer(t *testing.T) {
	var d draws = 3
	names, words := []string{"a", "b", "*"}, []string{"x", "y", ""}
	lines := func() []api.Secret {
		var l []api.Secret
		for range d.next(5) {
			l = append(l, api.Secret{Client: names[d.next(3)], Server: names[d.next(3)], Word: words[d.next(3)]})
		}
		return l
	}
	taken := 0
	for range 20000 {
		mine, theirs := lines(), lines()
		server, name, challenge := names[d.next(3)], names[d.next(3)], d.bytes(1+d.next(40))
		s, _, _ := NewServer(server, mine, 3)
		p, _, _ := NewPeer(name, theirs)
		best, ok := secret.Find(mine, name, server)
		said, known := secret.Find(theirs, name, server)
		good := ok && known && best.Word == said.Word && best.Word != ""
		q, _ := s.Start()
		talk(t, s, p, q, challenge)
		want, who := Refused, ""
		if good {
			taken++
			want, who = Accepted, name
		}
		is(t, s, want, who)
		if p.State() != want {
			t.Error(p.State())
		}
		if good {
			q, _ = s.Prove(d.bytes(16))
			talk(t, s, p, q, nil)
			is(t, s, Accepted, name)
			if p.State() != Accepted {
				t.Error(p.State())
			}
		}
		if t.Failed() {
			t.Fatal(mine, theirs, server, name)
		}
	}
	if taken < 300 {
		t.Error(taken)
	}
}

// TestServerAcceptsJustTheDigest hands drawn values to an authenticator that asks for a proof.
func TestServerAcceptsJustTheDigest(t *testing.T) {
	var d draws = 4
	taken := 0
	for range 20000 {
		s := server(t, 9)
		for range d.next(5) {
			s.Start()
		}
		q, _ := s.Start()
		challenge := string(d.bytes(1 + d.next(4)))
		name, word := []string{"alice", "dave"}[d.next(2)], []string{"x", "y", "pass word"}[d.next(3)]
		q, _, _ = s.Take(says(q.Id, name), []byte(challenge))
		right := name == "alice" && word == "x" || name == "dave" && word == "pass word"
		id, said := q.Id+d.next(2), challenge
		if d.next(3) == 0 {
			said = string(d.bytes(len(challenge)))
		}
		value := digest(id, word, said)
		if right && id == q.Id && said == challenge {
			taken++
			takes(t, s, proves(q.Id, value, name), "", packet(3, q.Id, ""))
			is(t, s, Accepted, name)
		} else {
			takes(t, s, proves(q.Id, value, name), "", packet(4, q.Id, ""))
			is(t, s, Refused, "")
		}
	}
	if taken < 1000 {
		t.Error(taken)
	}
}

// P1

func TestAPeerThatNewPeerDidNotMakeProvesNothing(t *testing.T) {
	var p Peer
	answers(t, &p, packet(1, 7, "\x01"), packet(2, 7, "\x01"), Asking)
	answers(t, &p, asks(8, "abc"), packet(2, 8, "\x03\x00"), Asking)
	hears(t, &p, packet(3, 8, ""), api.ErrState, Asking)
}
