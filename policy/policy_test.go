package policy

import (
	"math"
	"slices"
	"testing"

	"tether/api"
	"tether/conf"
)

// on answers a configuration by what a policy has of one.
func on(demand, persist bool, holdoff, idle, session int64, maxfail int) api.Conf {
	c := conf.Default()
	c.Demand, c.Persist, c.Holdoff, c.Idle, c.Session, c.Maxfail = demand, persist, holdoff, idle, session, maxfail
	return c
}

// made answers a policy that can be.
func made(t *testing.T, c api.Conf) *Policy {
	t.Helper()
	p, e := New(c)
	if e != api.OK || p == nil {
		t.Fatal(p, e)
	}
	return p
}

// calls are what can be called with a time, by names.
func calls() map[string]func(p *Policy, now int64) ([]int, api.Errno) {
	return map[string]func(p *Policy, now int64) ([]int, api.Errno){
		"start":   (*Policy).Start,
		"match":   func(p *Policy, now int64) ([]int, api.Errno) { return p.Packet(now, true) },
		"other":   func(p *Policy, now int64) ([]int, api.Errno) { return p.Packet(now, false) },
		"up":      (*Policy).Up,
		"down":    (*Policy).Down,
		"linkup":  (*Policy).LinkUp,
		"linkend": (*Policy).LinkDown,
		"tick":    (*Policy).Tick,
	}
}

// step is a call, and what it is to answer and to leave.
type step struct {
	call  string
	now   int64
	want  []int
	state int
}

// plays plays steps, one behind the other.
func plays(t *testing.T, p *Policy, l ...step) {
	t.Helper()
	for i, s := range l {
		got, e := calls()[s.call](p, s.now)
		if e != api.OK || !slices.Equal(got, s.want) || p.State() != s.state {
			t.Fatal(i, s, "answered", got, e, p.State())
		}
	}
}

// is asks what a policy tells of itself.
func is(t *testing.T, p *Policy, state, failures int, why string) {
	t.Helper()
	if p.State() != state || p.Failures() != failures || p.Why() != why {
		t.Error(p.State(), p.Failures(), p.Why(), "instead of", state, failures, why)
	}
}

// next asks when something is due; -1: nothing is.
func next(t *testing.T, p *Policy, want int64) {
	t.Helper()
	at, e := p.Next()
	if want < 0 && (at != 0 || e != api.ErrNone) || want >= 0 && (at != want || e != api.OK) {
		t.Error(at, e, "instead of", want)
	}
}

var (
	none = []int(nil)
	dial = []int{Dial}
	hang = []int{Hang}
)

// Examples

func TestAsInTheFirstExample(t *testing.T) {
	plays(t, made(t, on(true, false, 50, 100, 0, 10)),
		step{"match", 0, dial, Dials},
		step{"linkup", 5, none, Runs},
		step{"match", 90, none, Runs},
		step{"tick", 189, none, Runs},
		step{"tick", 190, hang, Ends},
		step{"linkend", 191, none, Holds},
		step{"match", 200, none, Holds},
		step{"tick", 240, none, Holds},
		step{"tick", 241, dial, Dials})
}

func TestAsInTheSecondExample(t *testing.T) {
	p := made(t, on(false, false, 0, 0, 0, 2))
	plays(t, p,
		step{"start", 0, dial, Dials},
		step{"linkend", 1, dial, Dials},
		step{"linkend", 2, none, Over})
	is(t, p, Over, 2, "failed")
}

// P28.1

func TestNumbers(t *testing.T) {
	if !slices.Equal([]int{Rest, Holds, Dials, Runs, Ends, Over}, []int{0, 1, 2, 3, 4, 5}) || Dial != 1 || Hang != 2 {
		t.Error("numbers")
	}
}

func TestNew(t *testing.T) {
	for _, n := range []int64{0, 1, 30000, api.MaxSpan} {
		for _, maxfail := range []int{0, 1, 255, 65535} {
			p := made(t, on(true, true, n, n, n, maxfail))
			is(t, p, Rest, 0, "")
			next(t, p, -1)
		}
	}
	for _, n := range []int64{math.MinInt64, -1, api.MaxSpan + 1, math.MaxInt64} {
		for _, c := range []api.Conf{on(false, false, n, 0, 0, 0), on(false, false, 0, n, 0, 0), on(false, false, 0, 0, n, 0)} {
			if p, e := New(c); p != nil || e != api.ErrArg {
				t.Error(n, p, e)
			}
		}
	}
	for _, n := range []int{math.MinInt, -1, 65536, math.MaxInt} {
		if p, e := New(on(false, false, 0, 0, 0, n)); p != nil || e != api.ErrArg {
			t.Error(n, p, e)
		}
	}
}

func TestOnlyItsOwnFieldsPlayAPart(t *testing.T) {
	plays(t, made(t, api.Conf{Name: "\x00", Mru: -1, Restart: -5, Filter: "no filter"}),
		step{"start", 0, dial, Dials})
}

func TestOfNil(t *testing.T) {
	var p *Policy
	for name, call := range calls() {
		for _, now := range []int64{math.MinInt64, -1, 0, 1, math.MaxInt64} {
			if l, e := call(p, now); len(l) != 0 || e != api.ErrNil {
				t.Error(name, now, l, e)
			}
		}
	}
	is(t, p, Rest, 0, "")
	if at, e := p.Next(); at != 0 || e != api.ErrNil {
		t.Error(at, e)
	}
}

func TestTimesThatCanNotBe(t *testing.T) {
	for name, call := range calls() {
		p := made(t, on(false, false, 10, 0, 100, 0))
		for _, now := range []int64{math.MinInt64, -1, api.MaxTime + 1, math.MaxInt64} {
			if l, e := call(p, now); len(l) != 0 || e != api.ErrArg {
				t.Error(name, now, l, e)
			}
		}
		is(t, p, Rest, 0, "")
		plays(t, p, step{"start", 50, dial, Dials}, step{"linkup", 60, none, Runs})
		before := *p
		for _, now := range []int64{math.MinInt64, -1, 0, 59, api.MaxTime + 1} {
			if l, e := call(p, now); len(l) != 0 || e != api.ErrArg || *p != before {
				t.Error(name, now, l, e)
			}
		}
		plays(t, p, step{"tick", 60, none, Runs}, step{"tick", api.MaxTime, hang, Ends})
	}
}

// A policy in Runs since 100, Session 50 and Idle 20, whose last matching packet came at 105.
func running(t *testing.T, idle, session int64) *Policy {
	t.Helper()
	p := made(t, on(false, false, 30, idle, session, 0))
	plays(t, p, step{"start", 0, dial, Dials}, step{"linkup", 100, none, Runs}, step{"match", 105, none, Runs})
	return p
}

func TestWhatIsDueIsDoneFirst(t *testing.T) {
	for name := range calls() {
		for _, k := range []struct {
			idle, session, now int64
			why                string
		}{
			{20, 0, 125, "idle"},
			{20, 0, 1000, "idle"},
			{0, 50, 150, "session"},
			{20, 50, 149, "idle"},
			{20, 50, 150, "session"}, // a session goes ahead
			{20, 50, 151, "session"},
			{45, 50, 150, "session"},
		} {
			p := running(t, k.idle, k.session)
			got, e := calls()[name](p, k.now)
			state := Ends
			if name == "linkend" {
				state = Holds
			}
			if e != api.OK || !slices.Equal(got, hang) {
				t.Error(name, k, got, e)
			}
			is(t, p, state, 0, k.why)
		}
	}
}

func TestNothingIsDueAheadOfItsTime(t *testing.T) {
	for _, k := range []struct{ idle, session, now int64 }{{20, 0, 124}, {0, 50, 149}, {20, 50, 124}, {0, 0, api.MaxTime}} {
		plays(t, running(t, k.idle, k.session), step{"tick", k.now, none, Runs})
	}
}

func TestTheHoldoffEnds(t *testing.T) {
	p := made(t, on(true, false, 30, 0, 0, 0))
	plays(t, p,
		step{"match", 0, dial, Dials},
		step{"linkend", 10, none, Holds},
		step{"tick", 39, none, Holds},
		step{"tick", 40, dial, Dials}, // it wanted one
		step{"down", 41, hang, Ends},
		step{"linkend", 50, none, Holds},
		step{"tick", 79, none, Holds},
		step{"tick", 80, none, Rest})
	is(t, p, Rest, 1, "down")
}

func TestACallThatFindsTheHoldoffOverDoesWhatItDoesBehindIt(t *testing.T) {
	for _, k := range []struct {
		call  string
		want  []int
		state int
		fails int
	}{
		{"start", none, Rest, 1}, // on demand
		{"match", dial, Dials, 1},
		{"other", none, Rest, 1},
		{"up", dial, Dials, 0},
		{"down", none, Rest, 1},
		{"linkup", none, Rest, 1},
		{"linkend", none, Rest, 1},
		{"tick", none, Rest, 1},
	} {
		p := made(t, on(true, false, 30, 0, 0, 0))
		plays(t, p,
			step{"match", 0, dial, Dials},
			step{"linkend", 10, none, Holds},
			step{"down", 11, none, Holds},
			step{k.call, 40, k.want, k.state})
		is(t, p, k.state, k.fails, "failed")
	}
	p := made(t, on(true, false, 30, 0, 0, 0))
	plays(t, p,
		step{"match", 0, dial, Dials},
		step{"linkend", 10, none, Holds},
		step{"down", 40, []int{Dial, Hang}, Ends}) // the dial is due ahead of it
}

// P28.2

// in answers a policy that is in a state at the time 1000, with the hold-off still to go where there is one.
func in(t *testing.T, state int, demand bool) *Policy {
	t.Helper()
	p := made(t, on(demand, false, 500, 5000, 9000, 1))
	first := "start"
	if demand {
		first = "match"
	}
	begun := []step{{first, 0, dial, Dials}}
	var more []step
	switch state {
	case Rest:
		begun = nil
	case Holds:
		more = []step{{"linkup", 1, none, Runs}, {"linkend", 1000, none, Holds}}
	case Runs:
		more = []step{{"linkup", 1000, none, Runs}}
	case Ends:
		more = []step{{"linkup", 1, none, Runs}, {"match", 4000, none, Runs}, {"tick", 9001, hang, Ends}}
	case Over:
		more = []step{{"linkend", 1000, none, Over}}
	}
	plays(t, p, append(begun, more...)...)
	if p.State() != state {
		t.Fatal(state)
	}
	return p
}

func TestWhatEachCallDoesInEachState(t *testing.T) {
	type effect struct {
		want  []int
		state int
	}
	stays := func(states ...int) map[int]effect {
		out := map[int]effect{}
		for _, s := range states {
			out[s] = effect{none, s}
		}
		return out
	}
	with := func(m map[int]effect, state int, want []int, to int) map[int]effect {
		m[state] = effect{want, to}
		return m
	}
	all := []int{Rest, Holds, Dials, Runs, Ends, Over}
	for name, k := range map[string][2]map[int]effect{ // without demand, and with it
		"tick":    {stays(all...), stays(all...)},
		"other":   {stays(all...), stays(all...)},
		"start":   {with(stays(all...), Rest, dial, Dials), stays(all...)},
		"match":   {stays(all...), with(stays(all...), Rest, dial, Dials)},
		"up":      {with(with(stays(all...), Rest, dial, Dials), Over, none, Holds), with(with(stays(all...), Rest, dial, Dials), Over, none, Holds)},
		"down":    {with(with(stays(all...), Dials, hang, Ends), Runs, hang, Ends), with(with(stays(all...), Dials, hang, Ends), Runs, hang, Ends)},
		"linkup":  {with(stays(all...), Dials, none, Runs), with(stays(all...), Dials, none, Runs)},
		"linkend": {with(with(with(stays(all...), Dials, none, Over), Runs, none, Holds), Ends, none, Holds), with(with(with(stays(all...), Dials, none, Over), Runs, none, Holds), Ends, none, Holds)},
	} {
		for _, state := range all {
			for i, demand := range []bool{false, true} {
				p := in(t, state, demand)
				got, e := calls()[name](p, p.now)
				want := k[i][state]
				if e != api.OK || !slices.Equal(got, want.want) || p.State() != want.state {
					t.Error(name, state, demand, got, e, p.State())
				}
			}
		}
	}
}

func TestWhatMatchesInHoldsDialsBehindIt(t *testing.T) {
	for _, k := range []struct {
		demand, matches bool
		want            []int
		state           int
	}{{true, true, dial, Dials}, {true, false, none, Rest}, {false, true, none, Rest}, {false, false, none, Rest}} {
		p := in(t, Holds, k.demand)
		if l, e := p.Packet(1499, k.matches); len(l) != 0 || e != api.OK {
			t.Error(k, l, e)
		}
		plays(t, p, step{"tick", 1499, none, Holds}, step{"tick", 1500, k.want, k.state})
	}
}

func TestUpInHoldsAndEndsWantsALink(t *testing.T) {
	p := made(t, on(false, false, 50, 0, 0, 0))
	plays(t, p,
		step{"start", 0, dial, Dials},
		step{"linkend", 1, none, Holds})
	is(t, p, Holds, 1, "failed")
	plays(t, p, step{"down", 2, none, Holds}, step{"up", 3, none, Holds})
	is(t, p, Holds, 0, "failed")
	plays(t, p, step{"tick", 51, dial, Dials}, step{"linkend", 60, none, Holds}, step{"tick", 110, dial, Dials}, step{"down", 111, hang, Ends})
	is(t, p, Ends, 1, "down")
	plays(t, p, step{"up", 112, none, Ends})
	is(t, p, Ends, 0, "down")
	plays(t, p, step{"linkend", 120, none, Holds}, step{"tick", 170, dial, Dials})
}

func TestUpWhereItChangesNothing(t *testing.T) {
	p := made(t, on(false, false, 10, 0, 0, 0))
	plays(t, p, step{"start", 0, dial, Dials}, step{"linkend", 1, none, Holds}, step{"tick", 11, dial, Dials})
	is(t, p, Dials, 1, "failed")
	plays(t, p, step{"up", 12, none, Dials})
	is(t, p, Dials, 1, "failed")
	plays(t, p, step{"linkup", 13, none, Runs}, step{"up", 14, none, Runs}, step{"linkend", 15, none, Holds}, step{"tick", 25, none, Rest})
}

func TestUpWhenItHasGivenUp(t *testing.T) {
	p := made(t, on(true, false, 50, 0, 0, 2))
	plays(t, p,
		step{"match", 0, dial, Dials},
		step{"linkend", 10, none, Holds},
		step{"tick", 60, dial, Dials},
		step{"linkend", 70, none, Over},
		step{"match", 71, none, Over},
		step{"start", 72, none, Over},
		step{"up", 119, none, Holds})
	is(t, p, Holds, 0, "failed")
	next(t, p, 120)
	plays(t, p, step{"tick", 120, dial, Dials}, step{"linkend", 130, none, Holds}, step{"tick", 180, dial, Dials}, step{"linkend", 190, none, Over})
	next(t, p, -1)
	plays(t, p, step{"tick", 1000, none, Over}, step{"up", 1000, dial, Dials})
	is(t, p, Dials, 0, "failed")
}

func TestUpAtTheHoldoffsEndWhenItHasGivenUp(t *testing.T) {
	for _, k := range []struct {
		holdoff, now int64
		want         []int
		state        int
	}{{50, 69, none, Holds}, {50, 70, dial, Dials}, {50, 71, dial, Dials}, {0, 20, dial, Dials}} {
		p := made(t, on(false, false, k.holdoff, 0, 0, 1))
		plays(t, p, step{"start", 0, dial, Dials}, step{"linkend", 20, none, Over}, step{"up", k.now, k.want, k.state})
		is(t, p, k.state, 0, "failed")
	}
}

func TestDownWantsNone(t *testing.T) {
	p := made(t, on(true, false, 50, 0, 0, 0))
	plays(t, p,
		step{"match", 0, dial, Dials},
		step{"linkend", 1, none, Holds},
		step{"down", 2, none, Holds})
	is(t, p, Holds, 1, "failed")
	plays(t, p, step{"match", 3, none, Holds}, step{"down", 4, none, Holds}, step{"tick", 51, none, Rest}, step{"down", 52, none, Rest})
	is(t, p, Rest, 1, "failed")
	plays(t, p, step{"up", 53, dial, Dials}, step{"linkup", 54, none, Runs}, step{"down", 55, hang, Ends})
	is(t, p, Ends, 0, "down")
	plays(t, p, step{"up", 56, none, Ends}, step{"down", 57, none, Ends}, step{"linkend", 58, none, Holds}, step{"tick", 108, none, Rest})
	is(t, p, Rest, 0, "down")
}

func TestDownInOver(t *testing.T) {
	p := in(t, Over, false)
	plays(t, p, step{"down", 1001, none, Over})
	is(t, p, Over, 1, "failed")
}

// P28.3

func TestLinkUpBeginsAnew(t *testing.T) {
	p := made(t, on(false, true, 0, 100, 150, 0))
	plays(t, p,
		step{"start", 0, dial, Dials},
		step{"linkend", 1, dial, Dials},
		step{"match", 2, none, Dials})
	is(t, p, Dials, 1, "failed")
	plays(t, p, step{"linkup", 1000, none, Runs})
	is(t, p, Runs, 0, "")
	next(t, p, 1100)
	plays(t, p, step{"match", 1040, none, Runs})
	next(t, p, 1140)
	plays(t, p, step{"match", 1051, none, Runs})
	next(t, p, 1150)
	plays(t, p, step{"linkup", 1060, none, Runs}) // it runs already
	next(t, p, 1150)
	plays(t, p, step{"other", 1149, none, Runs}, step{"tick", 1150, hang, Ends})
	is(t, p, Ends, 0, "session")
	plays(t, p, step{"linkup", 1160, none, Ends})
	is(t, p, Ends, 0, "session")
}

func TestAPacketThatMatchesBeginsTheIdleTimeAnewWithoutDemandToo(t *testing.T) {
	for _, demand := range []bool{false, true} {
		p := in(t, Runs, demand)
		plays(t, p, step{"match", 3000, none, Runs}, step{"other", 4000, none, Runs}, step{"tick", 7999, none, Runs}, step{"tick", 8000, hang, Ends})
		is(t, p, Ends, 0, "idle")
	}
}

func TestALinkThatIsLost(t *testing.T) {
	for _, persist := range []bool{false, true} {
		p := made(t, on(false, persist, 20, 0, 0, 1))
		plays(t, p, step{"up", 0, dial, Dials}, step{"linkup", 1, none, Runs}, step{"linkend", 10, none, Holds})
		is(t, p, Holds, 0, "lost")
		next(t, p, 30)
		if persist {
			plays(t, p, step{"tick", 30, dial, Dials})
		} else {
			plays(t, p, step{"tick", 30, none, Rest})
		}
	}
}

func TestWithoutAHoldoffItIsOverAtOnce(t *testing.T) {
	for _, k := range []struct {
		persist bool
		steps   []step
	}{
		{false, []step{{"linkend", 5, dial, Dials}}},
		{true, []step{{"linkup", 5, none, Runs}, {"linkend", 5, dial, Dials}}},
		{false, []step{{"linkup", 5, none, Runs}, {"linkend", 5, none, Rest}}},
		{true, []step{{"down", 5, hang, Ends}, {"linkend", 5, none, Rest}}},
		{false, []step{{"down", 5, hang, Ends}, {"up", 5, none, Ends}, {"linkend", 5, dial, Dials}}},
		{true, []step{{"linkup", 5, none, Runs}, {"tick", 105, hang, Ends}, {"linkend", 106, dial, Dials}}},
		{false, []step{{"linkup", 5, none, Runs}, {"linkend", 105, hang, Rest}}},
		{true, []step{{"linkup", 5, none, Runs}, {"linkend", 105, []int{Hang, Dial}, Dials}}},
	} {
		p := made(t, on(false, k.persist, 0, 0, 100, 0))
		plays(t, p, append([]step{{"start", 0, dial, Dials}}, k.steps...)...)
	}
}

func TestHowOftenItMayFail(t *testing.T) {
	for _, maxfail := range []int{1, 2, 7, 65535} {
		p := made(t, on(false, false, 0, 0, 0, maxfail))
		plays(t, p, step{"start", 0, dial, Dials})
		for range maxfail - 1 {
			plays(t, p, step{"linkend", 1, dial, Dials})
		}
		is(t, p, Dials, maxfail-1, []string{"", "failed"}[min(maxfail-1, 1)])
		plays(t, p, step{"linkend", 2, none, Over})
		is(t, p, Over, maxfail, "failed")
	}
	p := made(t, on(false, false, 0, 0, 0, 0))
	plays(t, p, step{"start", 0, dial, Dials})
	for range 100000 {
		plays(t, p, step{"linkend", 1, dial, Dials})
	}
	is(t, p, Dials, 100000, "failed")
}

func TestFailuresHaveABound(t *testing.T) {
	p := made(t, on(false, false, 0, 0, 0, 0))
	plays(t, p, step{"start", 0, dial, Dials})
	p.failures = math.MaxInt32 - 1
	for range 3 {
		plays(t, p, step{"linkend", 1, dial, Dials})
		is(t, p, Dials, math.MaxInt32, "failed")
	}
}

func TestALinkThatIsUpForgivesFailures(t *testing.T) {
	p := made(t, on(false, true, 0, 0, 0, 3))
	plays(t, p, step{"start", 0, dial, Dials}, step{"linkend", 1, dial, Dials}, step{"linkend", 2, dial, Dials})
	is(t, p, Dials, 2, "failed")
	plays(t, p, step{"linkup", 3, none, Runs}, step{"linkend", 4, dial, Dials})
	is(t, p, Dials, 0, "lost")
	plays(t, p, step{"linkend", 5, dial, Dials}, step{"linkend", 6, dial, Dials}, step{"linkend", 7, none, Over})
}

func TestWhatHasEndedDoesNotEndAgain(t *testing.T) {
	for _, state := range []int{Rest, Holds, Over} {
		p := in(t, state, false)
		before := *p
		plays(t, p, step{"linkend", p.now + 100, none, state})
		before.now = p.now
		if *p != before {
			t.Error(state)
		}
	}
}

// P28.4

func TestWhatComesWhileItIsHungUp(t *testing.T) {
	for _, k := range []struct {
		demand, persist bool
		calls           []string
		again           bool
	}{
		{false, false, nil, false},
		{true, false, nil, false},
		{true, false, []string{"match"}, true},
		{true, false, []string{"other"}, false},
		{false, false, []string{"match"}, false},
		{false, false, []string{"up"}, true},
		{false, false, []string{"up", "down"}, false},
		{true, false, []string{"match", "down"}, false},
		{true, false, []string{"down", "match"}, true},
		{false, false, []string{"down", "up"}, true},
		{false, false, []string{"start", "linkup", "tick"}, false},
		{false, true, nil, true},
		{false, true, []string{"down"}, true}, // it was hung up for another reason
	} {
		p := made(t, on(k.demand, k.persist, 10, 0, 100, 0))
		plays(t, p, step{"up", 0, dial, Dials}, step{"linkup", 1, none, Runs}, step{"tick", 101, hang, Ends})
		for _, c := range k.calls {
			plays(t, p, step{c, 102, none, Ends})
		}
		is(t, p, Ends, 0, "session")
		last := step{"tick", 113, none, Rest}
		if k.again {
			last = step{"tick", 113, dial, Dials}
		}
		plays(t, p, step{"linkend", 103, none, Holds}, step{"tick", 112, none, Holds}, last)
	}
}

func TestPersistDoesNotHoldAgainstDown(t *testing.T) {
	p := made(t, on(false, true, 10, 0, 0, 0))
	plays(t, p,
		step{"start", 0, dial, Dials},
		step{"linkup", 1, none, Runs},
		step{"down", 2, hang, Ends},
		step{"linkend", 3, none, Holds},
		step{"tick", 13, none, Rest})
	plays(t, p, step{"up", 14, dial, Dials}, step{"down", 15, hang, Ends}, step{"up", 16, none, Ends}, step{"linkend", 17, none, Holds}, step{"tick", 27, dial, Dials})
}

func TestAPacketThatComesAsTheLinkIsHungUp(t *testing.T) {
	p := made(t, on(true, false, 10, 50, 0, 0))
	plays(t, p,
		step{"match", 0, dial, Dials},
		step{"linkup", 1, none, Runs},
		step{"match", 51, hang, Ends}, // too late for the idle time, but it is wanted behind it
		step{"linkend", 52, none, Holds},
		step{"tick", 62, dial, Dials})
}

func TestNext(t *testing.T) {
	for state, at := range map[int]int64{Rest: -1, Holds: 1500, Dials: -1, Runs: 6000, Ends: -1, Over: -1} {
		next(t, in(t, state, false), at)
	}
	for _, k := range []struct{ idle, session, want int64 }{{0, 0, -1}, {20, 0, 125}, {0, 50, 150}, {20, 50, 125}, {45, 50, 150}, {90, 50, 150}} {
		next(t, running(t, k.idle, k.session), k.want)
	}
}

func TestNextIsAtMostTheLastTime(t *testing.T) {
	late := int64(api.MaxTime - 10)
	p := made(t, on(false, true, api.MaxSpan, api.MaxSpan, 11, 0))
	plays(t, p, step{"start", late, dial, Dials}, step{"linkup", late, none, Runs})
	next(t, p, api.MaxTime)
	plays(t, p, step{"tick", api.MaxTime, none, Runs})
	next(t, p, api.MaxTime)
	plays(t, p, step{"linkend", api.MaxTime, none, Holds})
	next(t, p, api.MaxTime)
	plays(t, p, step{"tick", api.MaxTime, none, Holds})
}

// What is answered is a caller's own.

func TestWhatIsAnsweredIsNewMemory(t *testing.T) {
	p := made(t, on(false, false, 0, 0, 0, 0))
	first, _ := p.Start(0)
	first[0] = 9
	_ = append(first, 9)
	plays(t, p, step{"linkend", 1, dial, Dials})
}

func TestOneThatNewDidNotMake(t *testing.T) {
	for _, call := range calls() {
		p := &Policy{}
		for now := range int64(3) {
			if _, e := call(p, now); e != api.OK {
				t.Error(e)
			}
		}
	}
}
