package chap

import (
	"math"
	"testing"

	"tether/api"
	"tether/secret"
)

// judge answers one of who is called name.
func judge(t *testing.T, name string) *Judge {
	t.Helper()
	j, e := New(name, secrets())
	if j == nil || e != api.OK {
		t.Fatal(name, e)
	}
	return j
}

// is checks what a judge is.
func is(t *testing.T, j *Judge, state int, who string, asked int) {
	t.Helper()
	if j.State() != state || j.Who() != who || j.Asked() != asked {
		t.Error(j.State(), j.Who(), j.Asked(), "instead of", state, who, asked)
	}
}

// asks checks what a judge, who is mill, asks.
func asks(t *testing.T, j *Judge, id int, value string) {
	t.Helper()
	if p, e := j.Ask(id, []byte(value)); !samePacket(p, challenge(id, value)) || e != api.OK {
		t.Error(id, value, p, e)
	}
}

// takes checks what a judge answers to a Response.
func takes(t *testing.T, j *Judge, p, want api.Packet) {
	t.Helper()
	if q, e := j.Take(p); !samePacket(q, want) || e != api.OK {
		t.Errorf("%d %q: %d %q %d", p.Id, p.Data, q.Code, q.Data, e)
	}
}

// refuses checks the error that a judge answers, and that it changes nothing.
func refuses(t *testing.T, j *Judge, p api.Packet, want api.Errno) {
	t.Helper()
	state, who, asked := j.State(), j.Who(), j.Asked()
	if q, e := j.Take(p); !noPacket(q) || e != want {
		t.Errorf("%d %q: %d %q %d instead of %d", p.Id, p.Data, q.Code, q.Data, e, want)
	}
	is(t, j, state, who, asked)
}

func welcome(id int) api.Packet {
	return packet(Success, id, "welcome")
}

func failed(id int) api.Packet {
	return packet(Failure, id, "authentication failed")
}

// P13.4

func TestNew(t *testing.T) {
	for _, name := range names() {
		for _, l := range [][]api.Secret{nil, secrets()} {
			j, e := New(name, l)
			if j == nil || e != api.OK {
				t.Fatal(name, e)
			}
			is(t, j, Idle, "", 0)
		}
	}
	many := make([]api.Secret, api.MaxSecrets+1)
	wrong := append(secrets(), api.Secret{Client: "erin", Server: "mill", Word: "\n"})
	for _, name := range noNames() {
		for _, l := range [][]api.Secret{nil, secrets(), wrong, many} {
			if j, e := New(name, l); j != nil || e != api.ErrName {
				t.Error(name, e)
			}
		}
	}
	for _, l := range [][]api.Secret{wrong, many, {{}}, {{Client: "a", Server: "b", Addrs: []int64{1, 1}}}, {{Client: "a", Server: "b", Addrs: []int64{0}}}} {
		_, want, _ := secret.New(l)
		if j, e := New("mill", l); j != nil || e == api.OK || e != want {
			t.Error(e, want)
		}
	}
}

func TestJudgeOfNil(t *testing.T) {
	var j *Judge
	for _, id := range []int{7, -1} {
		if p, e := j.Ask(id, nil); !noPacket(p) || e != api.ErrNil {
			t.Error(p, e)
		}
		if p, e := j.Take(packet(id, id, "")); !noPacket(p) || e != api.ErrNil {
			t.Error(p, e)
		}
	}
	if p, e := j.Again(); !noPacket(p) || e != api.ErrNil {
		t.Error(p, e)
	}
	is(t, j, Idle, "", 0)
}

func TestAskRefuses(t *testing.T) {
	refused := func(j *Judge) {
		t.Helper()
		state, who, asked := j.State(), j.Who(), j.Asked()
		for _, id := range wrongIds() {
			for _, value := range [][]byte{nil, []byte("abc"), make([]byte, 256)} {
				if p, e := j.Ask(id, value); !noPacket(p) || e != api.ErrCode {
					t.Error(id, p, e)
				}
			}
		}
		for _, value := range [][]byte{nil, {}, make([]byte, 256), make([]byte, 1<<17)} {
			if p, e := j.Ask(8, value); !noPacket(p) || e != api.ErrSize {
				t.Error(len(value), p, e)
			}
		}
		is(t, j, state, who, asked)
	}
	j := judge(t, "mill")
	refused(j)
	asks(t, j, 7, "abc")
	refused(j)
	if p, e := j.Again(); !samePacket(p, challenge(7, "abc")) || e != api.OK {
		t.Error(p, e)
	}
	takes(t, j, response(7, digest(7, "x", "abc"), "alice"), welcome(7))
	refused(j)
	takes(t, j, response(7, "v", "alice"), welcome(7))
	asks(t, j, 9, "def")
	takes(t, j, response(9, "v", "alice"), failed(9))
	refused(j)
	takes(t, j, response(9, digest(9, "x", "def"), "alice"), failed(9))
}

func TestAgain(t *testing.T) {
	j := judge(t, "mill")
	refused := func() {
		t.Helper()
		state, who, asked := j.State(), j.Who(), j.Asked()
		if p, e := j.Again(); !noPacket(p) || e != api.ErrState {
			t.Error(p, e)
		}
		is(t, j, state, who, asked)
	}
	refused()
	asks(t, j, 7, "abc")
	for n := range 300 {
		is(t, j, Waits, "", n+1)
		p, e := j.Again()
		if !samePacket(p, challenge(7, "abc")) || e != api.OK {
			t.Fatal(n, p, e)
		}
	}
	takes(t, j, response(7, digest(7, "x", "abc"), "alice"), welcome(7))
	is(t, j, Passed, "alice", 301)
	refused()
	asks(t, j, 0, "d")
	is(t, j, Waits, "alice", 1)
	takes(t, j, response(0, "v", "alice"), failed(0))
	is(t, j, Refused, "", 1)
	refused()
}

// P13.5, P13.7

func TestTakePasses(t *testing.T) {
	for _, c := range []struct{ server, name, word string }{
		{"mill", "alice", "x"}, {"other", "alice", "y"}, {"other", "carol", "z"}, {"mill", "dave", "pass word"},
	} {
		for _, id := range []int{0, 7, 255} {
			j := judge(t, c.server)
			q, e := j.Ask(id, []byte("abc"))
			if e != api.OK {
				t.Fatal(e)
			}
			r, e := Answer(q, c.name, "", secrets())
			if e != api.OK || !samePacket(r, response(id, digest(id, c.word, "abc"), c.name)) {
				t.Error(c, r, e)
			}
			takes(t, j, r, welcome(id))
			is(t, j, Passed, c.name, 1)
		}
	}
}

func TestTakeRefusesWhoProvesNothing(t *testing.T) {
	for _, c := range []struct{ name, value string }{
		{"alice", digest(7, "y", "abc")},
		{"alice", digest(7, "later", "abc")},
		{"alice", digest(8, "x", "abc")},
		{"alice", digest(7, "x", "abcd")},
		{"alice", digest(7, "x", "abc") + "\x00"},
		{"alice", digest(7, "x", "abc")[:15]},
		{"alice", "v"},
		{"bob", digest(7, "", "abc")},
		{"carol", digest(7, "z", "abc")},
		{"erin", digest(7, "x", "abc")},
		{"*", digest(7, "y", "abc")},
	} {
		j := judge(t, "mill")
		asks(t, j, 7, "abc")
		takes(t, j, response(7, c.value, c.name), failed(7))
		is(t, j, Refused, "", 1)
	}
}

// deaf checks that a judge is not changed by what is no Response to its last Challenge, of the identifier 7.
func deaf(t *testing.T, j *Judge) {
	t.Helper()
	data := string(response(7, digest(7, "x", "abc"), "alice").Data)
	for _, code := range []int{0, 1, 3, 4, -1, 5, 258, math.MinInt, math.MaxInt} {
		for _, id := range []int{7, 8, -1, 256} {
			refuses(t, j, packet(code, id, data), api.ErrCode)
			refuses(t, j, packet(code, id, ""), api.ErrCode)
		}
	}
	want := api.ErrSeq
	if j.State() == Idle {
		want = api.ErrState
		refuses(t, j, packet(Response, 7, data), want)
		refuses(t, j, packet(Response, 0, data), want)
		refuses(t, j, packet(Response, 0, ""), want)
	}
	for _, id := range append(wrongIds(), 0, 6, 8, 255, 7+256) {
		refuses(t, j, packet(Response, id, data), want)
		refuses(t, j, packet(Response, id, ""), want)
	}
}

func TestTakeIsDeafToAllElse(t *testing.T) {
	j := judge(t, "mill")
	deaf(t, j)
	asks(t, j, 8, "abd")
	asks(t, j, 7, "abc")
	deaf(t, j)
	for want, l := range unread() {
		for _, data := range l {
			refuses(t, j, packet(Response, 7, data), want)
			refuses(t, j, packet(Response, 8, data), api.ErrSeq)
		}
	}
	takes(t, j, response(7, digest(7, "x", "abc"), "alice"), welcome(7))
	is(t, j, Passed, "alice", 1)
	deaf(t, j)
	asks(t, j, 7, "abc")
	takes(t, j, response(7, digest(7, "y", "abc"), "alice"), failed(7))
	is(t, j, Refused, "", 1)
	deaf(t, j)
}

func TestAskedAnewItWaitsAnew(t *testing.T) {
	j := judge(t, "mill")
	asks(t, j, 7, "abc")
	takes(t, j, response(7, digest(7, "x", "abc"), "alice"), welcome(7))
	is(t, j, Passed, "alice", 1)
	asks(t, j, 8, "def")
	is(t, j, Waits, "alice", 1)
	refuses(t, j, response(7, digest(7, "x", "abc"), "alice"), api.ErrSeq)
	refuses(t, j, packet(Response, 8, "\x00"), api.ErrSize)
	is(t, j, Waits, "alice", 1)
	takes(t, j, response(8, digest(8, "pass word", "def"), "dave"), welcome(8))
	is(t, j, Passed, "dave", 1)
	asks(t, j, 9, "ghi")
	takes(t, j, response(9, digest(9, "x", "def"), "alice"), failed(9)) // to another value
	is(t, j, Refused, "", 1)
	asks(t, j, 9, "ghi")
	is(t, j, Waits, "", 1)
	asks(t, j, 10, "jkl") // while it waits
	refuses(t, j, response(9, digest(9, "x", "ghi"), "alice"), api.ErrSeq)
	takes(t, j, response(10, digest(10, "x", "jkl"), "alice"), welcome(10))
	is(t, j, Passed, "alice", 1)
}

// P13.9

func TestAnAnswerThatIsLostIsToldAgain(t *testing.T) {
	j := judge(t, "mill")
	asks(t, j, 7, "abc")
	takes(t, j, response(7, digest(7, "x", "abc"), "alice"), welcome(7))
	all := []api.Packet{
		response(7, digest(7, "x", "abc"), "alice"), response(7, "v", "alice"), response(7, digest(7, "pass word", "abc"), "dave"),
		packet(Response, 7, ""), packet(Response, 7, "\x00"), packet(Response, 7, "\xff"), packet(Response, 7, "\x01a\n"),
	}
	for _, p := range all {
		takes(t, j, p, welcome(7))
		is(t, j, Passed, "alice", 1)
	}
	asks(t, j, 7, "abc")
	takes(t, j, response(7, "v", "alice"), failed(7))
	for _, p := range all {
		takes(t, j, p, failed(7))
		is(t, j, Refused, "", 1)
	}
}

func TestJudgeKeepsNothingThatIsHandedIn(t *testing.T) {
	l, value := secrets(), []byte("abc")
	j, _ := New("mill", l)
	l[0].Word, l[0].Client = "changed", "changed"
	p, _ := j.Ask(7, value)
	clear(value)
	clear(p.Data)
	p, _ = j.Again()
	if !samePacket(p, challenge(7, "abc")) {
		t.Error(p)
	}
	_ = append(p.Data[:1], "zzzzzz"...)
	r := response(7, digest(7, "x", "abc"), "alice")
	first, _ := j.Take(r)
	clear(first.Data)
	takes(t, j, r, welcome(7))
	if !samePacket(r, response(7, digest(7, "x", "abc"), "alice")) {
		t.Error(r)
	}
	clear(r.Data)
	is(t, j, Passed, "alice", 2)
}

// TestJudgePassesJustWhoProves draws lists, Challenges and Responses, and tells by the digest alone what a judge is to say.
func TestJudgePassesJustWhoProves(t *testing.T) {
	var d draws = 4
	names, words := []string{"a", "b", "*"}, []string{"x", "y", ""}
	passed := 0
	for range 20000 {
		var l []api.Secret
		for range d.next(4) {
			l = append(l, api.Secret{Client: names[d.next(3)], Server: names[d.next(3)], Word: words[d.next(3)]})
		}
		mine, name, word, id := names[d.next(3)], names[d.next(3)], words[d.next(3)], d.next(3)
		j, _ := New(mine, l)
		value := string(d.bytes(1 + d.next(20)))
		j.Ask(1, []byte(value))
		best, ok := secret.Find(l, name, mine)
		r := response(1, digest(id, word, value), name)
		if ok && best.Word == word && word != "" && id == 1 {
			passed++
			takes(t, j, r, welcome(1))
			is(t, j, Passed, name, 1)
		} else {
			takes(t, j, r, failed(1))
			is(t, j, Refused, "", 1)
		}
		if t.Failed() {
			t.Fatal(l, mine, name, word, id)
		}
	}
	if passed < 300 {
		t.Error(passed)
	}
}

// P1

func TestAJudgeThatNewDidNotMakePassesNobody(t *testing.T) {
	var j Judge
	if p, e := j.Ask(7, []byte("abc")); !noPacket(p) || e != api.ErrName {
		t.Error(p, e)
	}
	if p, e := j.Again(); !noPacket(p) || e != api.ErrState {
		t.Error(p, e)
	}
	refuses(t, &j, response(0, "v", "alice"), api.ErrState)
	is(t, &j, Idle, "", 0)
}
