package daemon

import (
	"slices"

	"tether/api"
	"tether/policy"
)

// kind is a kind of events, and what one of them does; an error is answered ahead of any change.
type kind struct {
	number int
	does   func(d *Daemon, e api.Event) api.Errno
}

func kinds() []kind {
	return []kind{
		{api.VSerial, (*Daemon).takeBytes},
		{api.VTun, (*Daemon).takePacket},
		{api.VTick, (*Daemon).takeTick},
		{api.VRandom, (*Daemon).takeRandom},
		{api.VModem, (*Daemon).takeCarrier},
	}
}

// take does what an event of its kind does.
func (d *Daemon) take(e api.Event) api.Errno {
	for _, k := range kinds() {
		if k.number == e.Kind {
			return k.does(d, e)
		}
	}
	return api.ErrEvent
}

// takeTick lets the time come, to what wants a link first.
func (d *Daemon) takeTick(e api.Event) api.Errno {
	if e.N < d.now || e.N > api.MaxTime { // the clock is never below 0
		return api.ErrArg
	}
	d.now = e.N
	d.obey(d.policy.Tick(d.now))
	switch {
	case d.run != nil:
		d.say(d.run.Tick(d.now))
	case !d.dead():
		d.pass(d.link.Tick(d.now))
	}
	return api.OK
}

// takeBytes takes bytes of the line, which are the modem's as long as a script is played.
func (d *Daemon) takeBytes(e api.Event) api.Errno {
	switch {
	case d.run != nil:
		d.say(d.run.Feed(d.now, e.B))
	case !d.dead():
		d.pass(d.link.Feed(d.now, e.B))
	default:
		d.lost.bytes += int64(len(e.B))
	}
	return api.OK
}

// takePacket takes a packet that is to go: now, or when there is a link for it.
func (d *Daemon) takePacket(e api.Event) api.Errno {
	if versionOf(e.B) == 0 {
		return api.ErrIp
	}
	d.tell(e.B)
	switch {
	case d.goes(e.B) && !d.waits(e.B):
		d.send(e.B)
	case (d.conf.Demand || d.dials()) && d.queue.Len() < api.MaxQueue:
		d.queue.Add(slices.Clone(e.B))
	default:
		d.lost.packets++
	}
	return api.OK
}

// takeRandom makes the link's draws others.
func (d *Daemon) takeRandom(e api.Event) api.Errno {
	return d.link.Random(uint64(e.N))
}

// takeCarrier takes it that the carrier comes, or goes.
func (d *Daemon) takeCarrier(e api.Event) api.Errno {
	switch e.N {
	case 1:
		d.carrier = true
		if d.awaited {
			d.open()
		}
	case 0:
		d.carrier = false
		if d.run != nil {
			d.end()
		}
		if !d.dead() {
			d.pass(d.link.Lost(d.now))
		}
	default:
		return api.ErrArg
	}
	return api.OK
}

// dials tells whether a link is being made.
func (d *Daemon) dials() bool {
	state, _ := d.Policy()
	return state == policy.Dials
}
