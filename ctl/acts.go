package ctl

import (
	"math"
	"slices"

	"tether/api"
)

// Bounds of what waits on a wire.
const (
	maxPut   = api.MaxRing      // bytes that are put in at once
	maxWaits = 16 * api.MaxRing // bytes that wait for a side behind that
)

// maxTimes is how often a Flow lets something come.
const maxTimes = 1000

const byteBits = 8

// kind is a kind of acts: whether one is done at a side, whether its number says how many, and what it does.
type kind struct {
	number int
	sided  bool
	counts bool
	does   func(w *Wire, x Act) ([]api.Out, api.Errno)
}

func kinds() []kind {
	return []kind{
		{Tick, false, false, (*Wire).tick},
		{Packet, true, false, (*Wire).packet},
		{Line, true, false, (*Wire).line},
		{Modem, true, false, (*Wire).modem},
		{Random, true, false, (*Wire).random},
		{Carry, true, true, (*Wire).carry},
		{Drop, true, true, (*Wire).drop},
		{Turn, true, true, (*Wire).turn},
		{Put, true, false, (*Wire).put},
		{Flow, false, false, (*Wire).flow},
	}
}

// kindOf answers the kind of an act that can be.
func kindOf(x Act) (kind, api.Errno) {
	l := kinds()
	at := slices.IndexFunc(l, func(k kind) bool { return k.number == x.Kind })
	switch {
	case at < 0:
		return kind{}, api.ErrEvent
	case l[at].sided && !sideRight(x.Side), l[at].counts && x.N < 0:
		return kind{}, api.ErrArg
	}
	return l[at], api.OK
}

// tick lets the time come at both ends.
func (w *Wire) tick(x Act) ([]api.Out, api.Errno) {
	var out []api.Out
	for side := range w.ends {
		more, e := w.step(side, api.Event{Kind: api.VTick, N: x.N})
		if e != api.OK {
			return nil, e
		}
		out = append(out, more...)
	}
	return out, api.OK
}

// packet lets a packet go into a side's tun.
func (w *Wire) packet(x Act) ([]api.Out, api.Errno) {
	out, e := w.step(x.Side, api.Event{Kind: api.VTun, B: x.B})
	if e == api.OK {
		w.ends[x.Side].taken.Add(slices.Clone(x.B))
	}
	return out, e
}

// line asks a side's control.
func (w *Wire) line(x Act) ([]api.Out, api.Errno) {
	return w.step(x.Side, api.Event{Kind: api.VControl, Text: x.Text})
}

// modem lets a side's carrier come, or go.
func (w *Wire) modem(x Act) ([]api.Out, api.Errno) {
	return w.step(x.Side, api.Event{Kind: api.VModem, N: x.N})
}

// random makes a side's draws others.
func (w *Wire) random(x Act) ([]api.Out, api.Errno) {
	return w.step(x.Side, api.Event{Kind: api.VRandom, N: x.N})
}

// carry lets bytes come to a side.
func (w *Wire) carry(x Act) ([]api.Out, api.Errno) {
	b := w.ends[x.Side].waits.Take(x.N)
	if len(b) == 0 {
		return nil, api.OK
	}
	return w.step(x.Side, api.Event{Kind: api.VSerial, B: b})
}

// drop loses bytes.
func (w *Wire) drop(x Act) ([]api.Out, api.Errno) {
	w.ends[x.Side].waits.Take(x.N)
	return nil, api.OK
}

// turn turns a bit.
func (w *Wire) turn(x Act) ([]api.Out, api.Errno) {
	w.ends[x.Side].waits.Change(x.N/byteBits, func(c byte) byte { return c ^ 1<<(x.N%byteBits) })
	return nil, api.OK
}

// put puts bytes in.
func (w *Wire) put(x Act) ([]api.Out, api.Errno) {
	waits := &w.ends[x.Side].waits
	if len(x.B) > maxPut || waits.Len()+len(x.B) > maxWaits {
		return nil, api.ErrSize
	}
	waits.Ahead(x.B...)
	return nil, api.OK
}

// flow lets all bytes come, side by side, until none wait.
func (w *Wire) flow(Act) ([]api.Out, api.Errno) {
	var out []api.Out
	for i := range maxTimes {
		if w.ends[0].waits.Len()+w.ends[1].waits.Len() == 0 {
			break
		}
		more, _ := w.carry(Act{Side: i % sides, N: math.MaxInt64}) // bytes are never refused
		out = append(out, more...)
	}
	return out, api.OK
}
