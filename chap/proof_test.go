package chap

import (
	"math"
	"slices"
	"strings"
	"testing"

	"tether/api"
	"tether/secret"
)

// secrets are lines of several kinds.
func secrets() []api.Secret {
	return []api.Secret{
		{Client: "alice", Server: "mill", Word: "x"},
		{Client: "alice", Server: "*", Word: "y"},
		{Client: "bob", Server: "mill", Word: ""},
		{Client: "carol", Server: "other", Word: "z"},
		{Client: "dave", Server: "*", Word: "pass word", Addrs: []int64{5}},
		{Client: "alice", Server: "mill", Word: "later"},
	}
}

// challenge answers one of mill.
func challenge(id int, value string) api.Packet {
	return packet(Challenge, id, part(value)+"mill")
}

// response answers one with a value.
func response(id int, value, name string) api.Packet {
	return packet(Response, id, part(value)+name)
}

// P13.2

func TestAnswer(t *testing.T) {
	long := strings.Repeat("\x80", 255)
	for _, c := range []struct{ server, name, remote, word string }{
		{"mill", "alice", "", "x"},
		{"mill", "alice", "mill", "x"},
		{"other", "alice", "", "y"},
		{"other", "alice", "mill", "x"},
		{"mill", "alice", "other", "y"},
		{"mill", "carol", "other", "z"},
		{"mill", "dave", "", "pass word"},
		{"mill", "dave", "\n", "pass word"}, // a remote that is no name is any one
		{"mill", "dave", "a \"name\" that is much too long to be the name of somebody, or of anybody", "pass word"},
	} {
		for _, id := range []int{0, 7, 255} {
			for _, value := range []string{"abc", "\x00", long} {
				p, e := Answer(packet(Challenge, id, part(value)+c.server), c.name, c.remote, secrets())
				if !samePacket(p, response(id, digest(id, c.word, value), c.name)) || e != api.OK {
					t.Error(c, id, value, p, e)
				}
			}
		}
	}
}

func TestAnswerRefuses(t *testing.T) {
	refused := func(p api.Packet, name, remote string, l []api.Secret, want api.Errno) {
		t.Helper()
		if q, e := Answer(p, name, remote, l); !noPacket(q) || e != want {
			t.Error(p, name, remote, q, e)
		}
	}
	for want, l := range unread() {
		for _, data := range append(l, "\x03abcmill") {
			for _, code := range []int{0, 2, 3, 4, -1, 257, math.MinInt, math.MaxInt} {
				refused(packet(code, 7, data), "alice", "", secrets(), api.ErrCode)
				refused(packet(code, 7, data), "", "", nil, api.ErrCode)
			}
			for _, id := range wrongIds() {
				refused(packet(Challenge, id, data), "", "", nil, api.ErrCode)
			}
		}
		for _, data := range l {
			refused(packet(Challenge, 7, data), "", "", nil, want)
			refused(packet(Challenge, 7, data), "alice", "mill", secrets(), want)
		}
	}
	for _, name := range noNames() {
		refused(challenge(7, "abc"), name, "mill", nil, api.ErrName)
		refused(challenge(7, "abc"), name, "", []api.Secret{{Client: "*", Server: "*", Word: "w"}}, api.ErrName)
	}
	for _, c := range []struct{ name, remote string }{
		{"bob", ""}, {"bob", "mill"}, {"carol", ""}, {"carol", "mill"}, {"erin", ""}, {"Alice", ""}, {"*", ""}, {"alice", "*"},
	} {
		refused(challenge(7, "abc"), c.name, c.remote, secrets(), api.ErrNone)
	}
	refused(challenge(7, "abc"), "alice", "", nil, api.ErrNone)
	refused(challenge(7, "abc"), "alice", "", []api.Secret{{Client: "alice", Server: "mill", Word: "\n"}}, api.ErrNone)
	refused(packet(Challenge, 7, "\x03abcother"), "carol", "mill", secrets(), api.ErrNone)
}

// P13.3, P10

func TestHolds(t *testing.T) {
	long := strings.Repeat("\x80", 255)
	for _, c := range []struct{ server, name, word string }{
		{"mill", "alice", "x"}, {"other", "alice", "y"}, {"other", "carol", "z"}, {"mill", "dave", "pass word"}, {"\n", "dave", "pass word"}, {"", "alice", "y"},
	} {
		for _, id := range []int{0, 7, 255} {
			for _, value := range []string{"abc", "\x00", long} {
				q := packet(Challenge, id, part(value)+"whoever") // what this end is called is told beside it
				who, e := Holds(q, response(id, digest(id, c.word, value), c.name), c.server, secrets())
				if who != c.name || e != api.OK {
					t.Error(c, id, value, who, e)
				}
			}
		}
	}
}

func TestHoldsRefuses(t *testing.T) {
	refused := func(q, r api.Packet, name string, want api.Errno) {
		t.Helper()
		if who, e := Holds(q, r, name, secrets()); who != "" || e != want {
			t.Error(q, r, name, who, e)
		}
	}
	q, r := challenge(7, "abc"), response(7, digest(7, "x", "abc"), "alice")
	for _, code := range []int{0, 1, 3, 4, -1, 257, math.MinInt, math.MaxInt} {
		refused(q, packet(code, 7, string(r.Data)), "mill", api.ErrCode)
		refused(packet(Challenge, 7, ""), packet(code, 8, ""), "mill", api.ErrCode)
		if code != Challenge {
			refused(packet(code, 7, string(q.Data)), r, "mill", api.ErrCode)
			refused(packet(code, 7, ""), packet(Response, 8, ""), "mill", api.ErrCode)
		}
	}
	refused(packet(Response, 7, string(q.Data)), r, "mill", api.ErrCode)
	refused(r, q, "mill", api.ErrCode)
	for _, id := range wrongIds() {
		refused(packet(Challenge, id, ""), r, "mill", api.ErrCode)
		refused(q, packet(Response, id, ""), "mill", api.ErrCode)
		refused(packet(Challenge, id, string(q.Data)), packet(Response, id, string(r.Data)), "mill", api.ErrCode)
	}
	for want, l := range unread() {
		for _, data := range l {
			refused(packet(Challenge, 7, data), r, "mill", want)
			refused(packet(Challenge, 7, data), packet(Response, -1, ""), "mill", want)
			refused(q, packet(Response, 7, data), "mill", want)
			refused(q, packet(Response, 8, data), "erin", want)
		}
	}
	for _, id := range []int{0, 6, 8, 255} {
		refused(q, response(id, digest(id, "x", "abc"), "alice"), "mill", api.ErrSeq)
		refused(q, response(id, "v", "erin"), "mill", api.ErrSeq)
	}
	for _, name := range []string{"bob", "carol", "erin", "Alice", "*"} {
		refused(q, response(7, digest(7, "", "abc"), name), "mill", api.ErrNone)
		refused(q, response(7, "v", name), "mill", api.ErrNone)
	}
	refused(q, r, "*", api.ErrNone)
	right := digest(7, "x", "abc")
	for _, value := range []string{right[:15], right[1:], right + "\x00", "\x00" + right, "v", strings.Repeat("v", 255), digest(7, "y", "abc"), digest(7, "later", "abc"), digest(7, "", "abc"), digest(8, "x", "abc"), digest(7, "x", "abd"), digest(7, "x", "ab"), digest(7, "xa", "bc\x00")} {
		refused(q, response(7, value, "alice"), "mill", api.ErrAuth)
	}
	for i := range 128 {
		b := []byte(right)
		b[i/8] ^= 1 << (i % 8)
		refused(q, response(7, string(b), "alice"), "mill", api.ErrAuth)
	}
	refused(q, r, "other", api.ErrAuth)
	if who, e := Holds(q, r, "mill", nil); who != "" || e != api.ErrNone {
		t.Error(who, e)
	}
}

// P13.6

func TestAnswerHolds(t *testing.T) {
	var d draws = 3
	for range 5000 {
		id, value, server, name := d.next(256), d.bytes(1+d.next(255)), d.name(), d.name()
		l := []api.Secret{{Client: name, Server: server, Word: d.name()}}
		q, _ := Make(Challenge, id, value, server)
		r, e := Answer(q, name, "", l)
		if e != api.OK {
			if name == "*" || server == "*" { // which are nobody's names
				continue
			}
			t.Fatal(l, e)
		}
		if who, e := Holds(q, r, server, l); who != name || e != api.OK {
			t.Fatal(l, who, e)
		}
		other := []api.Secret{{Client: name, Server: server, Word: l[0].Word + "'"}}
		if who, e := Holds(q, r, server, other[:1]); len(other[0].Word) <= 64 && (who != "" || e != api.ErrAuth) {
			t.Fatal(other, who, e)
		}
		q.Data[1+d.next(len(value))] ^= byte(1 + d.next(255))
		if who, e := Holds(q, r, server, l); who != "" || e != api.ErrAuth {
			t.Fatal(l, who, e)
		}
		q.Id, r.Id = (id+1)%256, (id+1)%256
		if who, e := Holds(q, r, server, l); who != "" || e != api.ErrAuth {
			t.Fatal(l, who, e)
		}
	}
}

func TestProofsChangeNothingThatIsHandedIn(t *testing.T) {
	l := secrets()
	q := challenge(7, "abc")
	r, _ := Answer(q, "alice", "", l)
	Holds(q, r, "mill", l)
	if !samePacket(q, challenge(7, "abc")) || !samePacket(r, response(7, digest(7, "x", "abc"), "alice")) || !secret.Same(l, secrets()) {
		t.Error(q, r, l)
	}
	again, _ := Answer(q, "alice", "", l)
	kept := slices.Clone(again.Data)
	clear(r.Data)
	clear(q.Data)
	if !slices.Equal(again.Data, kept) {
		t.Error(again)
	}
}
