package phase

import "tether/api"

// ends tells something of the other end, and of this one.
type ends [2]bool

// Where they stand.
const (
	them = 0
	me   = 1
)

// Track is a link's phase, and what is proved.
type Track struct {
	at     int
	must   ends // who must prove who it is
	proved ends
	times  [5]int64 // how often each phase was entered
}

// New answers a link in Dead.
func New() *Track {
	return &Track{}
}

// Do lets an event come; Opened comes by Open alone.
func (t *Track) Do(event int) api.Errno {
	if t == nil {
		return api.ErrNil
	}
	switch event {
	case Theirs:
		return t.prove(them)
	case Mine:
		return t.prove(me)
	}
	next, e := Next(t.at, event)
	if e != api.OK {
		return e
	}
	switch event {
	case Up, Down, Reneg, Finished:
		t.must, t.proved = ends{}, ends{}
	}
	t.enter(next)
	return api.OK
}

// Open lets the link be opened, and says who must prove who it is.
func (t *Track) Open(theirs, mine bool) api.Errno {
	if t == nil {
		return api.ErrNil
	}
	switch t.at {
	case Establish:
		t.must, t.proved = ends{them: theirs, me: mine}, ends{}
		t.enter(t.opened())
		return api.OK
	case Terminate:
		return api.OK
	}
	return api.ErrEvent
}

// prove lets an end have proved who it is.
func (t *Track) prove(end int) api.Errno {
	switch t.at {
	case Authenticate:
		t.proved[end] = true
		t.enter(t.opened())
		return api.OK
	case Network, Terminate:
		return api.OK
	}
	return api.ErrEvent
}

// opened answers the phase of a link that is opened, by what is proved.
func (t *Track) opened() int {
	lacks := ends{
		them: t.must[them] && !t.proved[them],
		me:   t.must[me] && !t.proved[me],
	}
	if lacks == (ends{}) {
		return Network
	}
	return Authenticate
}

// enter comes to a phase, or stays in it.
func (t *Track) enter(phase int) {
	if phase != t.at {
		t.at = phase
		t.times[phase]++
	}
}

// At answers the phase.
func (t *Track) At() int {
	if t == nil {
		return Dead
	}
	return t.at
}

// Proved answers whether the other end has proved who it is, and whether this one has.
func (t *Track) Proved() (bool, bool) {
	if t == nil {
		return false, false
	}
	return t.proved[them], t.proved[me]
}

// Passes tells whether a protocol may pass now.
func (t *Track) Passes(proto int) bool {
	return Passes(t.At(), proto)
}

// Times answers how often each phase was entered from another one.
func (t *Track) Times() [5]int64 {
	if t == nil {
		return [5]int64{}
	}
	return t.times
}

// Same tells whether two tracks are alike in all that they keep.
func (t *Track) Same(o *Track) bool {
	return t != nil && o != nil && t.at == o.at && t.must == o.must && t.proved == o.proved && t.times == o.times
}
