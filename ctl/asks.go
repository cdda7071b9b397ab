package ctl

import (
	"tether/api"
	"tether/conf"
	"tether/meter"
	"tether/phase"
	"tether/policy"
)

// up asks for a link.
func (d *Desk) up([]string) reply {
	return done(d.daemon.Up())
}

// down asks for none.
func (d *Desk) down([]string) reply {
	return done(d.daemon.Down())
}

// done answers what came of what the daemon was asked to do.
func done(out []api.Out, e api.Errno) reply {
	if e != api.OK {
		return wrong(e)
	}
	return reply{"ok", out}
}

// status answers where the daemon is.
func (d *Desk) status([]string) reply {
	state, _ := d.daemon.Policy()
	return tell("policy", policyName(state), "phase", phase.Name(d.Phase()), "ready", networks(d.Ready()))
}

// policyName answers what a policy's state is called.
func policyName(state int) string {
	switch state {
	case policy.Rest:
		return "Rest"
	case policy.Holds:
		return "Holds"
	case policy.Dials:
		return "Dials"
	case policy.Runs:
		return "Runs"
	case policy.Ends:
		return "Ends"
	}
	return "Over"
}

// networks answers which networks are ready.
func networks(ip, ip6 bool) string {
	switch {
	case ip && ip6:
		return "ip ipv6"
	case ip:
		return "ip"
	case ip6:
		return "ipv6"
	}
	return "none"
}

// why answers why the last link ended.
func (d *Desk) why([]string) reply {
	_, why := d.daemon.Policy()
	if why == "" {
		return tell("-")
	}
	return tell(why)
}

// addrs answers both ends' addresses.
func (d *Desk) addrs([]string) reply {
	mine, theirs := d.daemon.Addrs()
	a, _ := conf.Addr(mine)
	b, _ := conf.Addr(theirs)
	return tell(a, b)
}

// who answers who is at the other end.
func (d *Desk) who([]string) reply {
	name := d.daemon.Who()
	if name == "" {
		return tell("-")
	}
	return written(conf.Quote(name))
}

// counters answers what was counted.
func (d *Desk) counters([]string) reply {
	packets, bytes := d.daemon.Lost()
	return tell("in", counts(d.daemon.Counts(false)), "out", counts(d.daemon.Counts(true)), "lost", number(packets), number(bytes))
}

// counts answers packets, bytes, and bytes on the wire.
func counts(c meter.Counts) string {
	return tell(number(c.Packets), number(c.Bytes), number(c.Wire)).text
}

// rates answers how much goes over the link.
func (d *Desk) rates([]string) reply {
	return tell("in", d.rate(false), "out", d.rate(true))
}

// rate answers how much goes one way, and how much of it the line is spared.
func (d *Desk) rate(out bool) string {
	return tell(meter.Text(d.daemon.Rate(out)), meter.Text(d.daemon.Gain(out))).text
}

// queue answers how many packets wait.
func (d *Desk) queue([]string) reply {
	return tell(number(int64(d.daemon.Queue())))
}

// failures answers how many links could not be made.
func (d *Desk) failures([]string) reply {
	return tell(number(int64(d.daemon.Failures())))
}

// now answers the clock.
func (d *Desk) now([]string) reply {
	return tell(number(d.daemon.Now()))
}

// next answers when something is due.
func (d *Desk) next([]string) reply {
	at, e := d.daemon.Next()
	if e != api.OK {
		return tell("none")
	}
	return tell(number(at))
}

// conf answers the configuration.
func (d *Desk) conf([]string) reply {
	return written(conf.Print(d.daemon.Conf()))
}

// written answers a text, if it could be written.
func written(text string, e api.Errno) reply {
	if e != api.OK {
		return wrong(e)
	}
	return tell(text)
}
