package phase

import (
	"testing"

	"tether/api"
)

// draws is a chain of numbers that are the same at each run.
type draws uint64

func (d *draws) next(below int) int {
	*d = *d*6364136223846793005 + 1442695040888963407
	return int(uint64(*d)>>33) % below
}

// is asks what a track tells of itself.
func is(t *testing.T, k *Track, at int, theirs, mine bool, times [5]int64) {
	t.Helper()
	a, b := k.Proved()
	if k.At() != at || a != theirs || b != mine || k.Times() != times {
		t.Error(Name(k.At()), a, b, k.Times(), "instead of", Name(at), theirs, mine, times)
	}
	for _, proto := range []int{0, -1, 0x20, api.PLcp, api.PPap, api.PChap, api.PEap, api.PCcp, api.PComp, api.PIp, api.PIpcp, 0xc001} {
		if k.Passes(proto) != Passes(at, proto) {
			t.Error(Name(at), proto)
		}
	}
}

// does lets events come that can.
func (t *Track) does(test *testing.T, events ...int) *Track {
	test.Helper()
	for _, event := range events {
		if e := t.Do(event); e != api.OK {
			test.Fatal(Name(t.At()), Event(event), e)
		}
	}
	return t
}

// opens lets the link be opened, where it can.
func (t *Track) opens(test *testing.T, theirs, mine bool) *Track {
	test.Helper()
	if e := t.Open(theirs, mine); e != api.OK {
		test.Fatal(Name(t.At()), e)
	}
	return t
}

// inPhase answers a track that has come to a phase; in Authenticate and Network both must prove who they are.
func inPhase(t *testing.T, phase int) *Track {
	t.Helper()
	k := New()
	switch phase {
	case Establish:
		k.does(t, Up)
	case Authenticate:
		k.does(t, Up).opens(t, true, true)
	case Network:
		k.does(t, Up).opens(t, true, true).does(t, Theirs, Mine)
	case Terminate:
		k.does(t, Up, Close)
	}
	if k.At() != phase {
		t.Fatal(Name(phase))
	}
	return k
}

// refuses asks that an event is refused, and changes nothing.
func refuses(t *testing.T, k *Track, event int, want api.Errno) {
	t.Helper()
	before := *k
	if e := k.Do(event); e != want {
		t.Error(Name(before.at), event, e)
	}
	if !k.Same(&before) {
		t.Error(Name(before.at), event, "changed something")
	}
}

// P26.2

func TestAsInTheExamples(t *testing.T) {
	k := New().does(t, Up).opens(t, true, false)
	is(t, k, Authenticate, false, false, [5]int64{0, 1, 1, 0, 0})
	k.does(t, Mine)
	is(t, k, Authenticate, false, true, [5]int64{0, 1, 1, 0, 0})
	k.does(t, Theirs)
	is(t, k, Network, true, true, [5]int64{0, 1, 1, 1, 0})
	k.does(t, Bad)
	is(t, k, Terminate, true, true, [5]int64{0, 1, 1, 1, 1})
	k.does(t, Finished)
	is(t, k, Dead, false, false, [5]int64{1, 1, 1, 1, 1})
	if Passes(Authenticate, 0x0021) {
		t.Error("passes")
	}
}

func TestNew(t *testing.T) {
	is(t, New(), Dead, false, false, [5]int64{})
}

func TestOfNil(t *testing.T) {
	var k *Track
	for _, event := range everyInt() {
		if e := k.Do(event); e != api.ErrNil {
			t.Error(event, e)
		}
	}
	for _, theirs := range []bool{false, true} {
		for _, mine := range []bool{false, true} {
			if e := k.Open(theirs, mine); e != api.ErrNil {
				t.Error(e)
			}
		}
	}
	is(t, k, Dead, false, false, [5]int64{})
	for proto := range 1 << 16 {
		if k.Passes(proto) {
			t.Fatal(proto)
		}
	}
	if k.Same(k) || k.Same(New()) || New().Same(k) {
		t.Error("Same")
	}
}

func TestDoIsTheTable(t *testing.T) {
	for phase, row := range readTable(t) {
		for event, to := range row {
			if event == Theirs || event == Mine {
				continue
			}
			k := inPhase(t, phase)
			if to == never {
				refuses(t, k, event, api.ErrEvent)
				continue
			}
			times := k.Times()
			if to != phase {
				times[to]++
			}
			k.does(t, event)
			kept := phase == Network && (event == Bad || event == Close)
			is(t, k, to, kept, kept, times)
		}
	}
}

func TestDoOfNoEvent(t *testing.T) {
	for phase := range 5 {
		for _, event := range everyInt() {
			if event < 0 || event > 8 {
				refuses(t, inPhase(t, phase), event, api.ErrArg)
			}
		}
	}
}

func TestOpenIsNotDone(t *testing.T) {
	for phase := range 5 {
		refuses(t, inPhase(t, phase), Opened, api.ErrEvent)
	}
}

func TestOpen(t *testing.T) {
	for _, theirs := range []bool{false, true} {
		for _, mine := range []bool{false, true} {
			k := inPhase(t, Establish).opens(t, theirs, mine)
			if theirs || mine {
				is(t, k, Authenticate, false, false, [5]int64{0, 1, 1, 0, 0})
			} else {
				is(t, k, Network, false, false, [5]int64{0, 1, 0, 1, 0})
			}
			for _, phase := range []int{Dead, Authenticate, Network} {
				k := inPhase(t, phase)
				before := *k
				if e := k.Open(theirs, mine); e != api.ErrEvent || !k.Same(&before) {
					t.Error(Name(phase), e)
				}
			}
			k = inPhase(t, Network).does(t, Bad)
			before := *k
			if e := k.Open(theirs, mine); e != api.OK || !k.Same(&before) {
				t.Error(e)
			}
			is(t, k, Terminate, true, true, [5]int64{0, 1, 1, 1, 1})
		}
	}
}

func TestProofs(t *testing.T) {
	at := [5]int64{0, 1, 1, 0, 0}
	done := [5]int64{0, 1, 1, 1, 0}
	for i, c := range []struct {
		mustTheirs, mustMine bool
		events               []int
		phase                int
		theirs, mine         bool
	}{
		{true, false, nil, Authenticate, false, false},
		{true, false, []int{Theirs}, Network, true, false},
		{true, false, []int{Mine}, Authenticate, false, true},
		{true, false, []int{Mine, Mine}, Authenticate, false, true},
		{true, false, []int{Mine, Theirs}, Network, true, true},
		{false, true, []int{Mine}, Network, false, true},
		{false, true, []int{Theirs}, Authenticate, true, false},
		{false, true, []int{Theirs, Theirs}, Authenticate, true, false},
		{false, true, []int{Theirs, Mine}, Network, true, true},
		{true, true, []int{Theirs}, Authenticate, true, false},
		{true, true, []int{Mine}, Authenticate, false, true},
		{true, true, []int{Theirs, Theirs}, Authenticate, true, false},
		{true, true, []int{Theirs, Mine}, Network, true, true},
		{true, true, []int{Mine, Theirs}, Network, true, true},
		{true, false, []int{Theirs, Mine}, Network, true, false}, // in Network they change nothing
		{false, true, []int{Mine, Theirs, Mine}, Network, false, true},
	} {
		k := inPhase(t, Establish).opens(t, c.mustTheirs, c.mustMine).does(t, c.events...)
		times := at
		if c.phase == Network {
			times = done
		}
		is(t, k, c.phase, c.theirs, c.mine, times)
		if t.Failed() {
			t.Fatal(i)
		}
	}
	for _, event := range []int{Theirs, Mine} {
		refuses(t, inPhase(t, Dead), event, api.ErrEvent)
		refuses(t, inPhase(t, Establish), event, api.ErrEvent)
		refuses(t, inPhase(t, Network), event, api.OK)
		refuses(t, inPhase(t, Terminate), event, api.OK)
		refuses(t, inPhase(t, Establish).opens(t, false, false), event, api.OK)
		refuses(t, inPhase(t, Authenticate).does(t, Bad), event, api.OK)
		refuses(t, inPhase(t, Authenticate).does(t, Theirs, Close), event, api.OK)
	}
}

func TestWhatIsForgotten(t *testing.T) {
	for _, c := range []struct {
		event  int
		kept   bool
		behind int
	}{{Down, false, Dead}, {Reneg, false, Establish}, {Finished, false, Terminate}, {Bad, true, Terminate}, {Close, true, Terminate}} {
		k := inPhase(t, Authenticate).does(t, Theirs, c.event)
		times := [5]int64{0, 1, 1, 0, 0}
		times[c.behind]++
		is(t, k, c.behind, c.kept, false, times)
	}
	k := inPhase(t, Authenticate).does(t, Theirs, Close) // of Terminate, where the phase stays
	other := inPhase(t, Establish).opens(t, true, false).does(t, Close)
	k.does(t, Close, Bad)
	if a, b := k.Proved(); !a || b || k.Same(other) {
		t.Error(a, b)
	}
	k.does(t, Reneg)
	is(t, k, Terminate, false, false, [5]int64{0, 1, 1, 0, 1})
	if !k.Same(other.does(t, Reneg)) { // nothing must be proved any more
		t.Error("what must be proved is not forgotten")
	}
	k = inPhase(t, Network).does(t, Reneg).opens(t, true, false)
	is(t, k, Authenticate, false, false, [5]int64{0, 2, 2, 1, 0})
	k.does(t, Theirs)
	is(t, k, Network, true, false, [5]int64{0, 2, 2, 2, 0})
	k.does(t, Reneg).opens(t, false, false)
	is(t, k, Network, false, false, [5]int64{0, 3, 2, 3, 0})
}

// P26.3

func TestTimesAreOfEntering(t *testing.T) {
	k := New().does(t, Down, Finished, Close)
	is(t, k, Dead, false, false, [5]int64{})
	k.does(t, Up, Reneg, Reneg)
	is(t, k, Establish, false, false, [5]int64{0, 1, 0, 0, 0})
	k.does(t, Close, Close, Reneg, Bad)
	is(t, k, Terminate, false, false, [5]int64{0, 1, 0, 0, 1})
	k.does(t, Down, Down, Up, Finished, Finished)
	is(t, k, Dead, false, false, [5]int64{2, 2, 0, 0, 1})
	times := k.Times()
	times[Dead] = 99
	is(t, k, Dead, false, false, [5]int64{2, 2, 0, 0, 1})
}

func TestSame(t *testing.T) {
	different := []*Track{
		New(),
		inPhase(t, Establish),
		inPhase(t, Establish).does(t, Down), // times
		inPhase(t, Establish).opens(t, false, false),
		inPhase(t, Establish).opens(t, true, false),
		inPhase(t, Establish).opens(t, false, true),
		inPhase(t, Establish).opens(t, true, true),
		inPhase(t, Establish).opens(t, true, false).does(t, Mine),
		inPhase(t, Establish).opens(t, true, true).does(t, Mine),
		inPhase(t, Establish).opens(t, true, true).does(t, Theirs),
		inPhase(t, Establish).opens(t, true, false).does(t, Theirs),
		inPhase(t, Establish).opens(t, true, false).does(t, Mine, Theirs),
		inPhase(t, Establish).opens(t, true, true).does(t, Mine, Theirs), // what must be proved
		inPhase(t, Establish).does(t, Close),
		inPhase(t, Authenticate).does(t, Close),
		inPhase(t, Authenticate).does(t, Finished), // what must be proved is forgotten
	}
	for i, a := range different {
		for j, b := range different {
			if a.Same(b) != (i == j) {
				t.Error(i, j)
			}
		}
		copied := *a
		if !a.Same(&copied) {
			t.Error(i)
		}
	}
	if !inPhase(t, Authenticate).Same(inPhase(t, Authenticate)) || !inPhase(t, Authenticate).does(t, Mine, Theirs).Same(inPhase(t, Authenticate).does(t, Theirs, Mine)) {
		t.Error("Same")
	}
}

// modelled is a track as a test keeps it.
type modelled struct {
	at                   int
	mustTheirs, mustMine bool
	theirs, mine         bool
	times                [5]int64
}

// do answers what an event comes to; of Opened with what must be proved.
func (m modelled) do(table [5][9]int, event int, theirs, mine bool) (modelled, api.Errno) {
	to := never
	switch {
	case event == Opened && m.at == Establish:
		m.mustTheirs, m.mustMine, m.theirs, m.mine = theirs, mine, false, false
		to = Network
		if theirs || mine {
			to = Authenticate
		}
	case event == Opened && m.at == Terminate:
		to = Terminate
	case event == Theirs || event == Mine:
		if m.at < Authenticate {
			return m, api.ErrEvent
		}
		if to = m.at; to == Authenticate {
			m.theirs, m.mine = m.theirs || event == Theirs, m.mine || event == Mine
			if (m.theirs || !m.mustTheirs) && (m.mine || !m.mustMine) {
				to = Network
			}
		}
	default:
		if to = table[m.at][event]; to == never {
			return m, api.ErrEvent
		}
		if event == Up || event == Down || event == Reneg || event == Finished {
			m.mustTheirs, m.mustMine, m.theirs, m.mine = false, false, false, false
		}
	}
	if to != m.at {
		m.times[to]++
	}
	m.at = to
	return m, api.OK
}

// P26.2 to P26.7

func TestATrackIsWhatTheModelSays(t *testing.T) {
	var d draws = 1
	table := readTable(t)
	for range 3000 {
		k := New()
		var m modelled
		for range 60 {
			event, theirs, mine := d.next(9), d.next(2) == 0, d.next(2) == 0
			before := *k
			var e, want api.Errno
			next := m
			if event == Opened {
				e = k.Open(theirs, mine)
				if want = api.ErrEvent; m.at == Establish || m.at == Terminate {
					next, want = m.do(table, event, theirs, mine)
				}
			} else {
				e = k.Do(event)
				next, want = m.do(table, event, false, false)
			}
			if e != want || e != api.OK && !k.Same(&before) {
				t.Fatal(Name(before.at), Event(event), e, want)
			}
			if m.at == Network && event == Bad && k.At() == Network || event == Down && k.At() != Dead || m.at == Dead && k.At() != Dead && event != Up {
				t.Fatal(Name(m.at), Event(event), Name(k.At()))
			}
			if e == api.OK {
				m = next
			}
			is(t, k, m.at, m.theirs, m.mine, m.times)
			if k.At() == Network && (m.mustTheirs && !m.theirs || m.mustMine && !m.mine) {
				t.Fatal("in Network ahead of a proof")
			}
			for _, proto := range []int{api.PIp, api.PIpv6, api.PComp, api.PIpcp, api.PIpv6cp, api.PCcp} {
				if k.Passes(proto) != (m.at == Network) {
					t.Fatal(Name(m.at), proto)
				}
			}
			if t.Failed() {
				t.FailNow()
			}
		}
	}
}

func TestTracksAreApart(t *testing.T) {
	a, b := New(), New()
	a.does(t, Up)
	is(t, b, Dead, false, false, [5]int64{})
	var zero Track // as New makes one
	if !zero.Same(b) {
		t.Error(zero)
	}
}
