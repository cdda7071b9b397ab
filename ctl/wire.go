package ctl

import (
	"slices"

	"tether/api"
	"tether/row"
)

// The kinds of acts.
const (
	Tick   = 1
	Packet = 2
	Line   = 3
	Modem  = 4
	Random = 5
	Carry  = 6
	Drop   = 7
	Turn   = 8
	Put    = 9
	Flow   = 10
)

// sides is how many ends a wire has.
const sides = 2

// Act is what happens to a wire, or to one of its ends.
type Act struct {
	Kind int
	Side int
	N    int64
	B    []byte
	Text string
}

// Wire: two desks, and what waits between them.
type Wire struct {
	ends [sides]end
}

// end is one of a wire's ends.
type end struct {
	desk  *Desk
	waits row.Row[byte]   // what the other end has put on its line, and has not come yet
	taken row.Row[[]byte] // the packets that went into its tun
	told  row.Row[[]byte] // those that came out
}

// Join starts two desks on one wire.
func Join(a, b *Desk) (*Wire, api.Errno) {
	switch {
	case !a.made() || !b.made():
		return nil, api.ErrNil
	case a == b:
		return nil, api.ErrTwice
	case a.started || b.started:
		return nil, api.ErrState
	}
	w := &Wire{[sides]end{{desk: a}, {desk: b}}}
	for side := range w.ends {
		out, _ := w.ends[side].desk.Start()
		w.lay(side, out)
	}
	return w, api.OK
}

// made tells whether Join has made the wire: one that it has not is as nil.
func (w *Wire) made() bool {
	return w != nil && w.ends[0].desk != nil
}

// lay lets what a side puts on its line wait for the other one, keeps what it delivers, and answers all but the line's bytes.
func (w *Wire) lay(side int, l []api.Out) []api.Out {
	var rest []api.Out
	for _, o := range l {
		switch o.Kind {
		case api.OSerial:
			w.ends[1-side].waits.Add(o.B...)
			continue
		case api.OTun:
			w.ends[side].told.Add(slices.Clone(o.B))
		}
		rest = append(rest, o)
	}
	return rest
}

// step lets an event come at a side.
func (w *Wire) step(side int, e api.Event) ([]api.Out, api.Errno) {
	out, err := w.ends[side].desk.Step(e)
	return w.lay(side, out), err
}

// Do does an act.
func (w *Wire) Do(x Act) ([]api.Out, api.Errno) {
	if !w.made() {
		return nil, api.ErrNil
	}
	k, e := kindOf(x)
	if e != api.OK {
		return nil, e
	}
	return k.does(w, x)
}

// Play does acts, up to the first one that is refused.
func (w *Wire) Play(l []Act) (api.Errno, int) {
	if !w.made() {
		return api.ErrNil, 0
	}
	for i, x := range l {
		if _, e := w.Do(x); e != api.OK {
			return e, i
		}
	}
	return api.OK, 0
}

// at answers an end; none, if there is no such side.
func (w *Wire) at(side int) *end {
	if !w.made() || !sideRight(side) {
		return &end{}
	}
	return &w.ends[side]
}

func sideRight(side int) bool {
	return side >= 0 && side < sides
}

// Waits answers the bytes that wait for a side.
func (w *Wire) Waits(side int) []byte {
	return w.at(side).waits.All()
}

// Taken answers the packets that a side's tun took.
func (w *Wire) Taken(side int) [][]byte {
	return copies(w.at(side).taken.All())
}

// Told answers the packets that a side delivered.
func (w *Wire) Told(side int) [][]byte {
	return copies(w.at(side).told.All())
}

// copies makes each of l a copy of its own.
func copies(l [][]byte) [][]byte {
	for i, b := range l {
		l[i] = slices.Clone(b)
	}
	return l
}
