package pap

import (
	"math"
	"strings"
	"testing"

	"tether/api"
)

// peer answers a peer that can be.
func peer(t *testing.T, name, word string, tries int) *Peer {
	t.Helper()
	p, e := NewPeer(name, word, tries)
	if p == nil || e != api.OK {
		t.Fatal(name, word, tries, e)
	}
	return p
}

// at checks what a peer is.
func at(t *testing.T, p *Peer, state int, message string) {
	t.Helper()
	if p.State() != state || p.Message() != message {
		t.Error(p.State(), p.Message(), "instead of", state, message)
	}
}

// sends checks that a peer sends a request with that identifier.
func sends(t *testing.T, p *Peer, id int, data string) {
	t.Helper()
	if q, ok, e := p.Send(); !samePacket(q, packet(1, id, data)) || !ok || e != api.OK {
		t.Errorf("%d: %d %d %q %v %d", id, q.Code, q.Id, q.Data, ok, e)
	}
}

// silent checks that a peer sends nothing, with that error.
func silent(t *testing.T, p *Peer, want api.Errno) {
	t.Helper()
	if q, ok, e := p.Send(); !noPacket(q) || ok || e != want {
		t.Error(q, ok, e)
	}
}

// hears checks what a peer answers to an answer.
func hears(t *testing.T, p *Peer, q api.Packet, ok bool, want api.Errno) {
	t.Helper()
	if got, e := p.Take(q); got != ok || e != want {
		t.Error(q, got, e)
	}
}

const said = "\x05alice\x01x"

// P12.3

func TestNewPeerRefuses(t *testing.T) {
	for _, name := range noNames() {
		for _, word := range []string{"x", ""} {
			for _, tries := range []int{1, 0} {
				if p, e := NewPeer(name, word, tries); p != nil || e != api.ErrName {
					t.Error(name, word, tries, e)
				}
			}
		}
		for _, tries := range []int{1, 0} { // what is no name is no word
			if p, e := NewPeer("alice", name, tries); p != nil || e != api.ErrValue {
				t.Error(name, tries, e)
			}
		}
	}
	for _, tries := range []int{math.MinInt, -1, 0, 256, 257, 1 << 32, math.MaxInt} {
		if p, e := NewPeer("alice", "x", tries); p != nil || e != api.ErrArg {
			t.Error(tries, e)
		}
	}
}

func TestNewPeerWaits(t *testing.T) {
	for _, tries := range []int{1, 2, 255} {
		p := peer(t, strings.Repeat("n", 64), strings.Repeat("w", 64), tries)
		at(t, p, Wait, "")
		sends(t, p, 1, part(strings.Repeat("n", 64))+part(strings.Repeat("w", 64)))
		at(t, p, Wait, "")
	}
}

func TestPeerIsAccepted(t *testing.T) {
	p := peer(t, "alice", "x", 3)
	sends(t, p, 1, said)
	hears(t, p, packet(2, 1, "\x02hi"), true, api.OK)
	at(t, p, Accepted, "hi")
	silent(t, p, api.ErrState)
	hears(t, p, packet(2, 1, "\x02ho"), false, api.ErrState)
	hears(t, p, packet(3, 1, "\x02ho"), false, api.ErrState)
	at(t, p, Accepted, "hi")
}

func TestPeerIsRefused(t *testing.T) {
	p := peer(t, "alice", "x", 3)
	sends(t, p, 1, said)
	sends(t, p, 2, said)
	hears(t, p, packet(3, 2, "\x02no"), false, api.OK)
	at(t, p, Refused, "no")
	silent(t, p, api.ErrState)
	hears(t, p, packet(2, 2, "\x02hi"), false, api.ErrState)
	at(t, p, Refused, "no")
}

func TestPeerTakesAnEmptyMessage(t *testing.T) {
	for _, data := range []string{"", "\x00"} {
		p := peer(t, "alice", "x", 1)
		sends(t, p, 1, said)
		hears(t, p, packet(2, 1, data), true, api.OK)
		at(t, p, Accepted, "")
	}
}

func TestPeerTakesAnswersToItsLastRequestAlone(t *testing.T) {
	p := peer(t, "alice", "x", 9)
	for _, id := range []int{0, 1, 255} {
		hears(t, p, packet(2, id, ""), false, api.ErrState) // nothing has been sent
	}
	sends(t, p, 1, said)
	sends(t, p, 2, said)
	for _, id := range []int{0, 1, 3, 255} {
		hears(t, p, packet(2, id, ""), false, api.ErrArg)
		hears(t, p, packet(3, id, "\x01n"), false, api.ErrArg)
		at(t, p, Wait, "")
	}
	hears(t, p, packet(2, 2, ""), true, api.OK)
	hears(t, p, packet(2, 3, ""), false, api.ErrState)
}

// P12.7

func TestPeerSendsAtMostSoOften(t *testing.T) {
	for tries := 1; tries <= 255; tries++ {
		p := peer(t, "alice", "x", tries)
		for n := range tries {
			sends(t, p, n+1, said)
			at(t, p, Wait, "")
		}
		silent(t, p, api.OK)
		at(t, p, Gone, "")
		for range 3 {
			silent(t, p, api.ErrState)
		}
		hears(t, p, packet(2, tries, "\x02hi"), false, api.ErrState)
		at(t, p, Gone, "")
	}
}

func TestPeerIsAcceptedBehindItsLastTry(t *testing.T) {
	p := peer(t, "alice", "x", 1)
	sends(t, p, 1, said)
	hears(t, p, packet(2, 1, ""), true, api.OK)
	at(t, p, Accepted, "")
}

func TestPeerReset(t *testing.T) {
	p := peer(t, "alice", "x", 2)
	sends(t, p, 1, said)
	hears(t, p, packet(2, 1, "\x02hi"), true, api.OK)
	p.Reset()
	at(t, p, Wait, "")
	hears(t, p, packet(2, 1, ""), false, api.ErrState) // nothing has been sent since
	sends(t, p, 2, said)
	sends(t, p, 3, said)
	silent(t, p, api.OK)
	at(t, p, Gone, "")
	p.Reset()
	at(t, p, Wait, "")
	sends(t, p, 4, said)
	hears(t, p, packet(3, 4, "\x02no"), false, api.OK)
	p.Reset()
	p.Reset()
	sends(t, p, 5, said)
	p.Reset()
	hears(t, p, packet(2, 5, ""), false, api.ErrState)
	sends(t, p, 6, said)
	hears(t, p, packet(2, 6, "\x00"), true, api.OK)
}

func TestPeersIdentifiersBeginAnewBehindTheLastOne(t *testing.T) {
	p := peer(t, "alice", "x", 255)
	for n := range 600 {
		if n%200 == 0 {
			p.Reset()
		}
		sends(t, p, (n+1)%256, said)
	}
	hears(t, p, packet(2, 600%256, ""), true, api.OK)
	p = peer(t, "alice", "x", 1)
	for n := range 255 {
		sends(t, p, n+1, said)
		p.Reset()
	}
	sends(t, p, 0, said)
	hears(t, p, packet(3, 0, ""), false, api.OK)
	at(t, p, Refused, "")
}

func TestPeerOfNil(t *testing.T) {
	var p *Peer
	silent(t, p, api.ErrNil)
	for _, q := range []api.Packet{{}, packet(2, 1, ""), packet(2, -1, "")} {
		hears(t, p, q, false, api.ErrNil)
	}
	p.Reset()
	at(t, p, Wait, "")
}

func TestPeerSharesNothing(t *testing.T) {
	p := peer(t, "alice", "x", 9)
	q, _, _ := p.Send()
	clear(q.Data)
	sends(t, p, 2, said)
	a := packet(2, 2, "\x02hi")
	hears(t, p, a, true, api.OK)
	clear(a.Data)
	at(t, p, Accepted, "hi")
}

// P12.6

func TestPeerIsNotChangedByWhatIsNoAnswer(t *testing.T) {
	deaf := func(p *Peer) {
		t.Helper()
		state, message := p.State(), p.Message()
		for want, l := range map[api.Errno][]api.Packet{
			api.ErrArg:   {packet(2, -1, ""), packet(3, 256, "\x01"), packet(1, 256, "")},
			api.ErrCode:  {packet(1, 1, "\x00"), packet(4, 1, ""), packet(0, 99, "\x01")},
			api.ErrShort: {packet(2, 1, "\x01"), packet(3, 1, "\x02n"), packet(2, 99, "\x09\n")},
			api.ErrForm:  {packet(2, 1, "\x00\x00"), packet(3, 1, "\x01\n"), packet(3, 99, "\x01no")},
		} {
			for _, q := range l {
				hears(t, p, q, false, want)
				at(t, p, state, message)
			}
		}
	}
	p := peer(t, "alice", "x", 2)
	deaf(p)
	sends(t, p, 1, said)
	deaf(p)
	hears(t, p, packet(2, 1, "\x02hi"), true, api.OK)
	deaf(p)
	p.Reset()
	sends(t, p, 2, said)
	sends(t, p, 3, said)
	silent(t, p, api.OK)
	deaf(p)
	at(t, p, Gone, "")
}

// P1

func TestEndsThatTheirNewCallsDidNotMakeDoNotPanic(t *testing.T) {
	var s Server
	is(t, &s, Wait, "")
	takes(t, &s, says(t, 7, "alice", ""), refused(7))
	s.Reset()
	var p Peer
	at(t, &p, Wait, "")
	hears(t, &p, packet(2, 0, ""), false, api.ErrState)
	silent(t, &p, api.OK)
	p.Reset()
}
