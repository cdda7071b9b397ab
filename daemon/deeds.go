package daemon

import (
	"tether/api"
	"tether/chat"
	"tether/phase"
	"tether/policy"
)

// put puts out some more.
func (d *Daemon) put(l ...api.Out) {
	d.out = append(d.out, l...)
}

// say puts out what a script sends; the error of a call that can not be refused is not asked for, here and below.
func (d *Daemon) say(b []byte, _ api.Errno) {
	if len(b) > 0 {
		d.put(api.Out{Kind: api.OSerial, B: b})
	}
}

// pass puts out what the link does, and tells of the packets that it delivers.
func (d *Daemon) pass(l []api.Out, _ api.Errno) {
	for _, o := range l {
		d.put(o)
		if o.Kind == api.OTun {
			d.tell(o.B)
		}
	}
}

// obey does what the policy answers.
func (d *Daemon) obey(l []int, _ api.Errno) {
	for _, do := range l {
		switch do {
		case policy.Dial:
			d.dial()
		case policy.Hang:
			d.hang()
		}
	}
}

// dial begins to make a link: by a script, or as soon as there is a carrier.
func (d *Daemon) dial() {
	d.put(api.Out{Kind: api.ODial})
	switch {
	case d.conf.Chat != "":
		d.run, _ = chat.New(d.script)
		d.say(d.run.Start(d.now))
	case d.carrier:
		d.open()
	default:
		d.awaited = true
	}
}

// open opens the link.
func (d *Daemon) open() {
	d.awaited, d.opened, d.ready = false, true, false
	d.pass(d.link.Open(d.now))
}

// hang ends what there is of a link: at once, if it was not opened yet; else the other end is told first.
func (d *Daemon) hang() {
	switch {
	case d.run != nil || d.awaited:
		d.end()
	case !d.dead():
		d.pass(d.link.Close(d.now))
	}
}

// end hangs up, and takes it that there is no link any more.
func (d *Daemon) end() {
	d.run, d.awaited, d.opened = nil, false, false
	d.put(api.Out{Kind: api.OHang})
	d.obey(d.policy.LinkDown(d.now))
}

// dead tells whether the link has no line.
func (d *Daemon) dead() bool {
	return d.link.Phase() == phase.Dead
}

// settle does what follows from what has happened, until nothing does.
func (d *Daemon) settle() {
	for d.follows() {
	}
}

// follows does the first thing that follows; false, if nothing does.
func (d *Daemon) follows() bool {
	switch state, _ := d.run.State(); { // of no run: Running
	case state == chat.Done:
		left := d.run.Left()
		d.run = nil
		d.open()
		if len(left) > 0 {
			d.pass(d.link.Feed(d.now, left))
		}
	case state == chat.Aborted || state == chat.Late:
		d.end()
	case d.opened && d.dead():
		if !d.conf.Demand {
			d.dropWaiting()
		}
		d.end()
	case !d.ready && d.linked():
		d.ready = true
		d.obey(d.policy.LinkUp(d.now))
	default:
		return d.sendWaiting()
	}
	return true
}

// linked tells whether packets of some network can go.
func (d *Daemon) linked() bool {
	ip, ip6 := d.link.Ready()
	return ip || ip6
}
