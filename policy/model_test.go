package policy

import (
	"slices"
	"testing"

	"tether/api"
)

// draws is a chain of numbers that are the same at each run.
type draws uint64

func (d *draws) next(below int) int {
	*d = *d*6364136223846793005 + 1442695040888963407
	return int(uint64(*d)>>33) % below
}

// story is all that a policy was told, and what it should have come to: each call goes through the chapter's words anew, from the story's events.
type story struct {
	c        api.Conf
	now      int64
	state    int
	wants    bool
	failures int
	why      string
	upAt     int64
	downAt   int64
	matches  []int64 // when packets matched
}

func (s *story) due() []int {
	if s.state == Runs {
		switch {
		case s.c.Session != 0 && s.now-s.upAt >= s.c.Session:
			s.state, s.why, s.wants = Ends, "session", false
			return []int{Hang}
		case s.c.Idle != 0 && s.now-s.upAt >= s.c.Idle && s.quiet():
			s.state, s.why, s.wants = Ends, "idle", false
			return []int{Hang}
		}
	}
	if s.state == Holds && s.now-s.downAt >= s.c.Holdoff {
		if s.wants {
			s.state = Dials
			return []int{Dial}
		}
		s.state = Rest
	}
	return nil
}

// quiet tells whether no packet has matched for the idle time.
func (s *story) quiet() bool {
	for _, at := range s.matches {
		if s.now-at < s.c.Idle {
			return false
		}
	}
	return true
}

func (s *story) dials() []int {
	s.wants, s.state = true, Dials
	return []int{Dial}
}

// tell is a call behind what is due.
func (s *story) tell(call string) []int {
	switch call {
	case "start":
		if s.state == Rest && !s.c.Demand {
			return s.dials()
		}
	case "match":
		s.matches = append(s.matches, s.now)
		if s.c.Demand && s.state == Rest {
			return s.dials()
		}
		if s.c.Demand && (s.state == Holds || s.state == Ends) {
			s.wants = true
		}
	case "up":
		switch s.state {
		case Rest:
			s.failures = 0
			return s.dials()
		case Over:
			s.wants, s.failures, s.state = true, 0, Holds
			return s.due()
		case Holds, Ends:
			s.wants, s.failures = true, 0
		}
	case "down":
		s.wants = false
		if s.state == Dials || s.state == Runs {
			s.state, s.why = Ends, "down"
			return []int{Hang}
		}
	case "linkup":
		if s.state == Dials {
			s.state, s.failures, s.why, s.upAt = Runs, 0, "", s.now
		}
	case "linkend":
		return s.linkEnds()
	}
	return nil
}

func (s *story) linkEnds() []int {
	was := s.state
	switch was {
	case Dials:
		s.failures++
		s.why = "failed"
	case Runs:
		s.why = "lost"
		s.wants = s.c.Persist
	case Ends:
		s.wants = s.wants || s.c.Persist && s.why != "down"
	default:
		return nil
	}
	s.downAt = s.now
	if was == Dials && s.c.Maxfail != 0 && s.failures >= s.c.Maxfail {
		s.state, s.wants = Over, false
		return nil
	}
	s.state = Holds
	return s.due()
}

// drawn answers a configuration with small spans, 0 among them.
func (d *draws) drawn() api.Conf {
	small := []int64{0, 0, 1, 3, 10, 40}
	return on(d.next(2) == 0, d.next(2) == 0, small[d.next(6)], small[d.next(6)], small[d.next(6)], []int{0, 1, 2, 5}[d.next(4)])
}

// names are those of the calls, in an order, the likely ones more than once.
func names() []string {
	return []string{"start", "match", "match", "other", "up", "down", "linkup", "linkup", "linkup", "linkend", "linkend", "tick", "tick"}
}

// told is what a call was, in which states the policy was ahead of it, behind what was due, and behind it, and what it answered: so many that were due, and others.
type told struct {
	call               string
	now                int64
	before, mid, after int
	due                int
	out                []int
}

// ends tells whether a link ended by it.
func (k told) ends() bool {
	return k.call == "linkend" && (k.mid == Dials || k.mid == Runs || k.mid == Ends)
}

// scripts plays drawn scripts, holds each call against the story, and shows what each script came to.
func scripts(t *testing.T, seed draws, see func(c api.Conf, l []told)) {
	t.Helper()
	d := seed
	for range 3000 {
		c := d.drawn()
		p := made(t, c)
		s := &story{c: c}
		var l []told
		for range 60 {
			if d.next(2) == 0 {
				s.now += int64(d.next(1 << d.next(7)))
			}
			call := names()[d.next(len(names()))]
			before := p.State()
			want := s.due()
			mid, due := s.state, len(want)
			want = append(want, s.tell(call)...)
			got, e := calls()[call](p, s.now)
			if e != api.OK || !slices.Equal(got, want) || p.State() != s.state || p.Failures() != s.failures || p.Why() != s.why {
				t.Fatal(c, l, call, s.now, got, want, p.State(), s.state, p.Failures(), s.failures, p.Why(), s.why)
			}
			l = append(l, told{call, s.now, before, mid, p.State(), due, got})
		}
		see(c, l)
	}
}

func TestAsTheStoryHasIt(t *testing.T) {
	n := map[int]int{}
	scripts(t, 1, func(_ api.Conf, l []told) {
		for _, k := range l {
			n[k.after]++
		}
	})
	for state := Rest; state <= Over; state++ {
		if n[state] < 2000 {
			t.Error(state, n[state])
		}
	}
}

// P28.5

func TestALinkIsHungUpInTime(t *testing.T) {
	ended := 0
	scripts(t, 2, func(c api.Conf, l []told) {
		var up, used int64
		for _, k := range l {
			switch {
			case k.before == Runs:
				over := c.Session != 0 && k.now-up >= c.Session || c.Idle != 0 && k.now-used >= c.Idle
				if hung := slices.Contains(k.out, Hang); hung != (over || k.call == "down") {
					t.Fatal(c, k)
				}
				if over {
					ended++
				}
				if k.call == "match" {
					used = k.now
				}
			case k.after == Runs:
				up, used = k.now, k.now
			}
		}
	})
	if ended < 1000 {
		t.Error(ended)
	}
}

// P28.6

func TestBetweenALinksEndAndTheNextDialLiesTheHoldoff(t *testing.T) {
	dials := 0
	scripts(t, 3, func(c api.Conf, l []told) {
		ended := int64(-1)
		for _, k := range l {
			if k.before == Holds && k.mid == Dials { // ahead of what the call does
				dials++
				if k.now-ended < c.Holdoff {
					t.Fatal(c, k, ended)
				}
			}
			if k.ends() {
				ended = k.now
			}
			if k.mid != Dials && k.after == Dials && ended >= 0 {
				dials++
				if k.now-ended < c.Holdoff {
					t.Fatal(c, k, ended)
				}
			}
		}
	})
	if dials < 1000 {
		t.Error(dials)
	}
}

// P28.7

func TestItGivesUp(t *testing.T) {
	over := 0
	scripts(t, 4, func(c api.Conf, l []told) {
		failed := 0
		for _, k := range l {
			switch {
			case k.call == "up":
				failed = 0
			case k.call == "linkup" && k.mid == Dials:
				failed = 0
			case k.call == "linkend" && k.mid == Dials:
				failed++
			}
			if k.after == Over {
				over++
			}
			if c.Maxfail != 0 && failed > c.Maxfail {
				t.Fatal(c, k, failed)
			}
			if c.Maxfail != 0 && failed == c.Maxfail && k.after == Dials {
				t.Fatal(c, k, failed)
			}
		}
	})
	if over < 1000 {
		t.Error(over)
	}
}

// P28.8

func TestOnDemandADialComesBehindAWish(t *testing.T) {
	dials := 0
	scripts(t, 5, func(c api.Conf, l []told) {
		if !c.Demand || c.Persist {
			return
		}
		wished, failed := false, false
		see := func(what int, k told) {
			switch {
			case what == Hang:
				wished = false
			case !wished && !failed:
				t.Fatal(c, k)
			default:
				wished, failed = false, false
				dials++
			}
		}
		for _, k := range l {
			for _, what := range k.out[:k.due] {
				see(what, k)
			}
			if k.call == "match" || k.call == "up" {
				wished = true
			}
			if k.ends() {
				failed = k.mid == Dials
				wished = wished && k.mid == Ends
			}
			for _, what := range k.out[k.due:] {
				see(what, k)
			}
		}
	})
	if dials < 1000 {
		t.Error(dials)
	}
}

// P28.9

func TestWhereHangAndDialAreAnswered(t *testing.T) {
	scripts(t, 6, func(c api.Conf, l []told) {
		for _, k := range l {
			ended := false
			at := k.before
			for _, what := range k.out {
				switch what {
				case Hang:
					if at != Dials && at != Runs {
						t.Fatal(c, k)
					}
					at = Ends
				case Dial:
					ended = k.call == "linkend"
					if at != Rest && at != Holds && at != Over && !ended {
						t.Fatal(c, k)
					}
					at = Dials
				default:
					t.Fatal(k)
				}
			}
			if len(k.out) > 2 {
				t.Fatal(k)
			}
		}
	})
}

// P28.10

func TestATickAheadOfNextChangesNothing(t *testing.T) {
	var d draws = 7
	ticks, due := 0, 0
	for range 3000 {
		c := d.drawn()
		p := made(t, c)
		now := int64(0)
		for range 40 {
			if at, e := p.Next(); e == api.ErrNone || e == api.OK && at > now {
				ahead := now + int64(d.next(100))
				if e == api.OK {
					ahead = min(ahead, at-1)
				}
				before := *p
				got, _ := p.Tick(ahead)
				before.now = ahead
				if len(got) != 0 || *p != before {
					t.Fatal(c, ahead, got)
				}
				now = ahead
				ticks++
				if e == api.OK && d.next(2) == 0 { // and at that time it does
					p.Tick(at)
					if p.State() == before.state {
						t.Fatal(c, at)
					}
					now = at
					due++
				}
			} else if e == api.OK {
				t.Fatal(c, at, now) // it should have been done
			}
			call := names()[d.next(len(names()))]
			if _, e := calls()[call](p, now); e != api.OK {
				t.Fatal(call, e)
			}
		}
	}
	if ticks < 1000 || due < 1000 {
		t.Error(ticks, due)
	}
}
