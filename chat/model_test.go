package chat

import (
	"strings"
	"testing"
)

// event is one of a run's: bytes at a time.
type event struct {
	now  int64
	text string
}

// model plays a script as the document tells it, over all that has come.
type model struct {
	steps   []Step
	all     string
	out     string
	state   int
	which   int
	aborts  []string
	reports []Step
	since   []int // where each Report's text has ended; -1, if it has not
	left    string
}

// play goes through the steps; next answers the byte that comes ahead of a time, and false if that time comes first.
func (m *model) play(next func(until int64) (byte, int64, bool)) {
	now, span := int64(0), int64(45000)
	for _, s := range m.steps {
		switch s.Kind {
		case Send:
			m.send(s)
		case Abort:
			m.aborts = append(m.aborts, s.Text)
		case Report:
			m.reports = append(m.reports, s)
			m.since = append(m.since, -1)
		case Timeout:
			span = s.N * 1000
		case Expect:
			come := false
			for _, part := range append([]Step{s}, s.Else...) {
				if part.Kind == Send {
					m.send(part)
					continue
				}
				if come, now = m.wait(part.Text, now, now+span, next); come || m.state != Running {
					break
				}
			}
			if m.state == Running && !come {
				m.state = Late
			}
		}
		if m.state != Running {
			return
		}
	}
	m.state = Done
}

func (m *model) send(s Step) {
	m.out += s.Text
	if s.Cr {
		m.out += "\r"
	}
}

func (m *model) wait(text string, now, until int64, next func(int64) (byte, int64, bool)) (bool, int64) {
	begun := len(m.all)
	for !strings.HasSuffix(m.all[begun:], text) {
		c, at, ok := next(until)
		if !ok {
			return false, at
		}
		now = at
		m.all += string([]byte{c})
		for n, a := range m.aborts {
			if strings.HasSuffix(m.all, a) {
				m.state, m.which = Aborted, n
				return false, now
			}
		}
		for i, r := range m.reports {
			if m.since[i] < 0 && strings.HasSuffix(m.all, r.Text) {
				m.since[i] = len(m.all)
			}
		}
	}
	return true, now
}

// tell answers the reports that are whole.
func (m *model) tell() string {
	var out []string
	for i, r := range m.reports {
		if m.since[i] < 0 {
			continue
		}
		behind := m.all[m.since[i]:]
		end := strings.IndexFunc(behind, func(c rune) bool { return c < 32 })
		switch {
		case end >= 0 && end <= 80:
			out = append(out, r.Text+"="+behind[:end])
		case len(behind) >= 80:
			out = append(out, r.Text+"="+behind[:80])
		}
	}
	return strings.Join(out, "|")
}

// playModel plays steps over events that all are told.
func playModel(l []Step, events []event) (m *model) {
	m = &model{steps: l}
	at, used := 0, 0
	// What is left when the events are at their end waits for ever: the run is left where it is.
	type stop struct{}
	defer func() {
		if e := recover(); e != nil {
			if _, ok := e.(stop); !ok {
				panic(e)
			}
		}
	}()
	m.play(func(until int64) (byte, int64, bool) {
		for at < len(events) {
			e := events[at]
			switch {
			case e.now >= until && used == 0:
				return 0, e.now, false
			case used < len(e.text):
				used++
				return e.text[used-1], e.now, true
			}
			at, used = at+1, 0
		}
		panic(stop{})
	})
	for ; at < len(events); at, used = at+1, 0 {
		if m.state == Done {
			m.left += events[at].text[used:]
		}
	}
	return m
}

// tight draws a script of few letters, so that its texts come.
func (d *draws) tight() []Step {
	text := func(least int) string {
		b := make([]byte, least+d.next(3))
		for i := range b {
			b[i] = among[byte](d, 'a', 'b')
		}
		return string(b)
	}
	l := d.script()
	for i := range l {
		l[i].N = min(l[i].N, 1+l[i].N%3)
		switch l[i].Kind {
		case Abort:
			l[i].Text = text(2)
		case Report:
			l[i].Text = text(1)
		case Expect:
			l[i].Text = text(0)
			for j := range l[i].Else {
				if j%2 == 1 {
					l[i].Else[j].Text = text(0)
				}
			}
		}
	}
	return l
}

func (d *draws) events() []event {
	var l []event
	now := int64(0)
	for range d.next(20) {
		now += int64(among(d, 0, 1, 500, 1000, d.next(3000), 45000))
		b := make([]byte, d.next(among(d, 3, 12, 100)))
		for i := range b {
			b[i] = among[byte](d, 'a', 'b', 'a', 'b', 'c', '\n')
		}
		if d.next(9) == 0 {
			b = append(b, strings.Repeat("xyz ", 25)...)
		}
		l = append(l, event{now, string(b)})
	}
	return l
}

// P7.3, P7.4, P7.6, P7.7, P7.9

func TestARunIsWhatTheModelSays(t *testing.T) {
	var d draws = 3
	ends := map[int]int{}
	for range 20000 {
		l, events := d.tight(), d.events()
		m := playModel(l, events)
		r, _ := New(l)
		b, _ := r.Start(0)
		out := string(b)
		for _, e := range events {
			out += fed(t, r, e.now, e.text)
		}
		state, which := r.State()
		ends[state]++
		if out != m.out || state != m.state || which != m.which || reports(r) != m.tell() || string(r.Left()) != m.left {
			text, _ := Print(l)
			t.Fatalf("%s\n%v\n%q %d %d %q %q\n%q %d %d %q %q", text, events, out, state, which, reports(r), r.Left(), m.out, m.state, m.which, m.tell(), m.left)
		}
	}
	for state := Running; state <= Late; state++ {
		if ends[state] < 300 {
			t.Error("too few:", ends)
		}
	}
}

// P7.6

func TestPiecesChangeNothing(t *testing.T) {
	var d draws = 4
	for range 5000 {
		l, events := d.tight(), d.events()
		whole, _ := New(l)
		pieces, _ := New(l)
		whole.Start(0)
		pieces.Start(0)
		for _, e := range events {
			want := fed(t, whole, e.now, e.text)
			got := ""
			for rest := e.text; ; {
				n := d.next(len(rest) + 1)
				got += fed(t, pieces, e.now, rest[:n])
				if rest = rest[n:]; rest == "" {
					break
				}
			}
			ws, ww := whole.State()
			ps, pw := pieces.State()
			wd, wok := whole.Deadline()
			pd, pok := pieces.Deadline()
			if got != want || ws != ps || ww != pw || wd != pd || wok != pok || reports(whole) != reports(pieces) || whole.Said() != pieces.Said() || string(whole.Left()) != string(pieces.Left()) {
				t.Fatalf("%q %q", got, want)
			}
		}
	}
}

// P7.9

func TestEachSendIsSentAtMostOnceInOrder(t *testing.T) {
	var d draws = 5
	for range 5000 {
		l, events := d.tight(), d.events()
		var sends []*Step
		number := func(s *Step) {
			if s.Kind == Send {
				s.Text, s.Cr = string(rune('A'+len(sends))), false
				sends = append(sends, s)
			}
		}
		for i := range l {
			for j := range l[i].Else {
				number(&l[i].Else[j])
			}
			number(&l[i])
		}
		r, _ := New(l)
		b, _ := r.Start(0)
		last, over := "", 0
		for _, e := range events {
			piece := fed(t, r, e.now, e.text)
			state, _ := r.State()
			if over != Running && (piece != "" || state != over) {
				t.Fatal("over")
			}
			over = state
			b = append(b, piece...)
		}
		for _, c := range string(b) {
			if string(c) <= last {
				t.Fatalf("%q", b)
			}
			last = string(c)
		}
	}
}

// P1

func TestARunEndsAtAnything(t *testing.T) {
	var d draws = 6
	for range 2000 {
		l := d.script()
		if d.next(3) == 0 && len(l) > 0 {
			l[d.next(len(l))].Kind = d.next(9) - 1
		}
		r, e := New(l)
		if e != 0 {
			continue
		}
		for range 20 {
			now := int64(among(&d, 0, -1, d.next(1<<30), 1<<40, 1<<40+1))
			switch d.next(3) {
			case 0:
				r.Start(now)
			case 1:
				r.Tick(now)
			default:
				r.Feed(now, []byte(d.text(0)))
			}
			r.State()
			r.Deadline()
			r.Said()
			reports(r)
			r.Left()
		}
	}
}
