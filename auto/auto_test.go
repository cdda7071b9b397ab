package auto

import (
	"math"
	"slices"
	"testing"

	"tether/api"
)

// draws is a chain of numbers that are the same at each run.
type draws uint64

func (d *draws) next(below int) int {
	*d = *d*6364136223846793005 + 1442695040888963407
	return int(uint64(*d)>>33) % below
}

// step is an event, and what has to come of it.
type step struct {
	event   int
	actions []int
	state   int
	count   int
}

// play lets events come, and asks what has to come of them.
func play(t *testing.T, a *Auto, steps ...step) {
	t.Helper()
	for i, s := range steps {
		actions, e := a.Do(s.event)
		if e != api.OK || !slices.Equal(actions, s.actions) {
			t.Error(i, actions, e)
		}
		is(t, a, s.state, s.count)
	}
}

// is asks what an automaton tells of itself.
func is(t *testing.T, a *Auto, state, count int) {
	t.Helper()
	runs := state >= api.SClosing && state <= api.SAckSent
	if a.State() != state || a.Count() != count || a.Running() != runs {
		t.Error(a.State(), a.Count(), a.Running(), "instead of", state, count, runs)
	}
}

// P10.2

func TestAsInTheExamples(t *testing.T) {
	a := New(10, 2)
	play(t, a,
		step{api.EOpen, []int{api.ATls}, api.SStarting, 0},
		step{api.EUp, []int{api.AIrc, api.AScr}, api.SReqSent, 9},
		step{api.ERCRP, []int{api.ASca}, api.SAckSent, 9},
		step{api.ERCA, []int{api.AIrc, api.ATlu}, api.SOpened, 10},
		step{api.ERTR, []int{api.ATld, api.AZrc, api.ASta}, api.SStopping, 0})
	if l, e := a.Timeout(); !slices.Equal(l, []int{api.ATlf}) || e != api.OK {
		t.Error(l, e)
	}
	is(t, a, api.SStopped, 0)
	if _, _, e := Next(0, api.EDown); e != api.ErrEvent {
		t.Error(e)
	}
	if _, _, e := Next(10, 0); e != api.ErrArg {
		t.Error(e)
	}
}

func TestNew(t *testing.T) {
	for _, n := range []int{math.MinInt, -1, 0, 256, 257, 1 << 32, math.MaxInt} {
		for _, good := range []int{1, 10, 255} {
			if New(n, good) != nil || New(good, n) != nil {
				t.Error(n, good)
			}
		}
		if New(n, n) != nil {
			t.Error(n)
		}
	}
	for _, l := range [][2]int{{1, 1}, {1, 255}, {255, 1}, {255, 255}, {10, 2}} {
		a := New(l[0], l[1])
		if a == nil {
			t.Fatal(l)
		}
		is(t, a, api.SInitial, 0)
	}
}

func TestOfNil(t *testing.T) {
	var a *Auto
	for _, event := range []int{math.MinInt, -1, api.EUp, api.EDown, api.ETOPlus, 16, math.MaxInt} {
		if l, e := a.Do(event); len(l) != 0 || e != api.ErrNil {
			t.Error(event, l, e)
		}
	}
	if l, e := a.Timeout(); len(l) != 0 || e != api.ErrNil {
		t.Error(l, e)
	}
	if a.Copy() != nil {
		t.Error("Copy")
	}
	is(t, a, 0, 0)
}

func TestDoRefusesWhatNextRefuses(t *testing.T) {
	for _, event := range everyInt() {
		a := New(3, 2)
		want := api.OK
		switch {
		case event < 0 || event > 15:
			want = api.ErrArg
		case event != api.EUp && event != api.EOpen && event != api.EClose:
			want = api.ErrEvent
		}
		if l, e := a.Do(event); e != want || e != api.OK && len(l) != 0 {
			t.Error(event, l, e)
		}
		if want != api.OK {
			is(t, a, api.SInitial, 0)
		}
	}
}

func TestTimeoutsGoWithTheCounter(t *testing.T) {
	a := New(2, 3)
	play(t, a,
		step{api.EUp, nil, api.SClosed, 0},
		step{api.EOpen, []int{api.AIrc, api.AScr}, api.SReqSent, 1})
	refuses(t, a, api.ETOMin, api.ErrState)
	play(t, a, step{api.ETOPlus, []int{api.AScr}, api.SReqSent, 0})
	refuses(t, a, api.ETOPlus, api.ErrState)
	refuses(t, a, api.EUp, api.ErrEvent)
	refuses(t, a, 16, api.ErrArg)
	play(t, a, step{api.ETOMin, []int{api.ATlf}, api.SStopped, 0})
	refuses(t, a, api.ETOPlus, api.ErrEvent) // Next's error comes first
	refuses(t, a, api.ETOMin, api.ErrEvent)
}

// refuses asks that an event is refused, and that nothing changes.
func refuses(t *testing.T, a *Auto, event int, want api.Errno) {
	t.Helper()
	state, count := a.State(), a.Count()
	if l, e := a.Do(event); len(l) != 0 || e != want {
		t.Error(event, l, e)
	}
	is(t, a, state, count)
}

func TestTheCounter(t *testing.T) {
	a := New(4, 2)
	play(t, a,
		step{api.EUp, nil, api.SClosed, 0},
		step{api.EOpen, []int{api.AIrc, api.AScr}, api.SReqSent, 3},
		step{api.ETOPlus, []int{api.AScr}, api.SReqSent, 2},
		step{api.ERCRM, []int{api.AScn}, api.SReqSent, 2},
		step{api.ERCN, []int{api.AIrc, api.AScr}, api.SReqSent, 3},
		step{api.ERCA, []int{api.AIrc}, api.SAckRcvd, 4},
		step{api.ETOPlus, []int{api.AScr}, api.SReqSent, 3},
		step{api.ERCA, []int{api.AIrc}, api.SAckRcvd, 4},
		step{api.ERCRP, []int{api.ASca, api.ATlu}, api.SOpened, 4},
		step{api.ERXR, []int{api.ASer}, api.SOpened, 4},
		step{api.ERCRP, []int{api.ATld, api.AScr, api.ASca}, api.SAckSent, 3},
		step{api.ERCA, []int{api.AIrc, api.ATlu}, api.SOpened, 4},
		step{api.EClose, []int{api.ATld, api.AIrc, api.AStr}, api.SClosing, 1},
		step{api.ETOPlus, []int{api.AStr}, api.SClosing, 0},
		step{api.EOpen, nil, api.SStopping, 0},
		step{api.ERCRP, nil, api.SStopping, 0},
		step{api.ERTA, []int{api.ATlf}, api.SStopped, 0},
		step{api.ERCRM, []int{api.AIrc, api.AScr, api.AScn}, api.SReqSent, 3},
		step{api.ERXJM, []int{api.ATlf}, api.SStopped, 3},
		step{api.EDown, []int{api.ATls}, api.SStarting, 3})
}

func TestTheCounterStaysAtNone(t *testing.T) {
	a := New(1, 1)
	play(t, a,
		step{api.EUp, nil, api.SClosed, 0},
		step{api.EOpen, []int{api.AIrc, api.AScr}, api.SReqSent, 0},
		step{api.ERCRP, []int{api.ASca}, api.SAckSent, 0},
		step{api.ERCA, []int{api.AIrc, api.ATlu}, api.SOpened, 1},
		step{api.ERTA, []int{api.ATld, api.AScr}, api.SReqSent, 0},
		step{api.ERCA, []int{api.AIrc}, api.SAckRcvd, 1},
		step{api.ERCN, []int{api.AScr}, api.SReqSent, 0},
		step{api.ERCRP, []int{api.ASca}, api.SAckSent, 0},
		step{api.ERCA, []int{api.AIrc, api.ATlu}, api.SOpened, 1},
		step{api.ERCN, []int{api.ATld, api.AScr}, api.SReqSent, 0},
		step{api.ERTR, []int{api.ASta}, api.SReqSent, 0},
		step{api.EClose, []int{api.AIrc, api.AStr}, api.SClosing, 0})
	if l, e := a.Timeout(); !slices.Equal(l, []int{api.ATlf}) || e != api.OK {
		t.Error(l, e)
	}
	is(t, a, api.SClosed, 0)
	a = &Auto{state: api.SAckRcvd} // sent with the counter at 0
	play(t, a, step{api.ERCA, []int{api.AScr}, api.SReqSent, 0})
}

func TestTimeout(t *testing.T) {
	for state := range 10 {
		for _, count := range []int{0, 1, 2, 255} {
			a := &Auto{state: state, count: count, maxConfigure: 255, maxTerminate: 255}
			event := api.ETOMin
			if count > 0 {
				event = api.ETOPlus
			}
			next, want, _ := Next(state, event)
			l, e := a.Timeout()
			if state < api.SClosing || state == api.SOpened {
				if len(l) != 0 || e != api.ErrEvent {
					t.Error(state, count, l, e)
				}
				is(t, a, state, count)
				continue
			}
			if !slices.Equal(l, want) || e != api.OK {
				t.Error(state, count, l, e)
			}
			is(t, a, next, max(count-1, 0))
		}
	}
}

func TestCopy(t *testing.T) {
	a := New(5, 2)
	play(t, a, step{api.EUp, nil, api.SClosed, 0}, step{api.EOpen, []int{api.AIrc, api.AScr}, api.SReqSent, 4})
	c := a.Copy()
	is(t, c, api.SReqSent, 4)
	play(t, a, step{api.EClose, []int{api.AIrc, api.AStr}, api.SClosing, 1})
	is(t, c, api.SReqSent, 4)
	play(t, c, step{api.ERCA, []int{api.AIrc}, api.SAckRcvd, 5}, step{api.EClose, []int{api.AIrc, api.AStr}, api.SClosing, 1})
	play(t, c, step{api.EDown, nil, api.SInitial, 1})
	is(t, a, api.SClosing, 1)
}

func TestWhatIsAnsweredIsTheCallers(t *testing.T) {
	a := New(5, 2)
	a.Do(api.EUp)
	l, _ := a.Do(api.EOpen)
	clear(l)
	is(t, a, api.SReqSent, 4)
	play(t, a, step{api.ERCN, []int{api.AIrc, api.AScr}, api.SReqSent, 4})
}

func TestAnAutomatonThatNewDidNotMakeEnds(t *testing.T) {
	var d draws = 9
	var a Auto
	for range 10000 {
		a.Do(d.next(18) - 1)
		a.Timeout()
		if a.Count() < 0 || a.State() < 0 || a.State() > 9 {
			t.Fatal(a)
		}
	}
}

// P10.3

func TestRun(t *testing.T) {
	state, count, l, e, n := Run(10, 2, api.EOpen, api.EUp, api.ERCRP, api.ERCA, api.ERTR)
	want := []int{api.ATls, api.AIrc, api.AScr, api.ASca, api.AIrc, api.ATlu, api.ATld, api.AZrc, api.ASta}
	if state != api.SStopping || count != 0 || !slices.Equal(l, want) || e != api.OK || n != 0 {
		t.Error(state, count, l, e, n)
	}
	state, count, l, e, n = Run(10, 2, api.EOpen, api.EUp, api.ETOMin, api.ERCRP)
	if state != api.SReqSent || count != 9 || !slices.Equal(l, want[:3]) || e != api.ErrState || n != 2 {
		t.Error(state, count, l, e, n)
	}
	state, count, l, e, n = Run(10, 2, api.EDown)
	if state != 0 || count != 0 || len(l) != 0 || e != api.ErrEvent || n != 0 {
		t.Error(state, count, l, e, n)
	}
	state, count, l, e, n = Run(255, 255, api.EOpen, api.EUp, api.ERCRP, 99, api.ERCA)
	if state != api.SAckSent || count != 254 || !slices.Equal(l, want[:4]) || e != api.ErrArg || n != 3 {
		t.Error(state, count, l, e, n)
	}
	state, count, l, e, n = Run(1, 1)
	if state != 0 || count != 0 || len(l) != 0 || e != api.OK || n != 0 {
		t.Error(state, count, l, e, n)
	}
}

func TestRunOfNone(t *testing.T) {
	for _, c := range [][2]int{{0, 1}, {1, 0}, {256, 1}, {1, 256}, {-1, -1}, {math.MinInt, math.MaxInt}} {
		state, count, l, e, n := Run(c[0], c[1], api.EOpen, 99)
		if state != 0 || count != 0 || len(l) != 0 || e != api.ErrArg || n != 0 {
			t.Error(c, state, count, l, e, n)
		}
	}
}

func TestRunIsDoOfEach(t *testing.T) {
	var d draws = 1
	for range 20000 {
		maxConfigure, maxTerminate := 1+d.next(4), 1+d.next(4)
		a := New(maxConfigure, maxTerminate)
		var events, all []int
		want, at := api.OK, 0
		for i := range d.next(30) {
			event := d.drawn(a)
			events = append(events, event)
			if want != api.OK {
				continue
			}
			l, e := a.Do(event)
			all = append(all, l...)
			if e != api.OK {
				want, at = e, i
			}
		}
		before := slices.Clone(events)
		state, count, l, e, n := Run(maxConfigure, maxTerminate, events...)
		if state != a.State() || count != a.Count() || !slices.Equal(l, all) || e != want || n != at || !slices.Equal(events, before) {
			t.Fatal(events, state, count, l, e, n)
		}
	}
}

// drawn answers an event, most often one that can come.
func (d *draws) drawn(a *Auto) int {
	for range 20 {
		event := d.next(16)
		if _, _, e := Next(a.State(), event); e == api.OK {
			return event
		}
	}
	return d.next(20) - 2
}
