package daemon

import (
	"slices"

	"tether/api"
	"tether/meter"
	"tether/phase"
	"tether/policy"
)

// Now answers the clock.
func (d *Daemon) Now() int64 {
	if !d.made() {
		return 0
	}
	return d.now
}

// Conf answers the configuration.
func (d *Daemon) Conf() api.Conf {
	if !d.made() {
		return api.Conf{}
	}
	c := d.conf
	c.Accept = slices.Clone(c.Accept)
	return c
}

// Policy answers what the policy is in, and why the last link ended.
func (d *Daemon) Policy() (int, string) {
	if !d.made() {
		return policy.Rest, ""
	}
	return d.policy.State(), d.policy.Why()
}

// Failures answers how many links could not be made, one behind the other.
func (d *Daemon) Failures() int {
	if !d.made() {
		return 0
	}
	return d.policy.Failures()
}

// Phase answers the link's phase.
func (d *Daemon) Phase() int {
	if !d.made() {
		return phase.Dead
	}
	return d.link.Phase()
}

// Ready tells whether packets of IP, and of IPv6, can go.
func (d *Daemon) Ready() (bool, bool) {
	if !d.made() {
		return false, false
	}
	return d.link.Ready()
}

// Addrs answers this end's address, and the other one's.
func (d *Daemon) Addrs() (int64, int64) {
	if !d.made() {
		return 0, 0
	}
	return d.link.Addrs()
}

// Who answers the name by which the other end has proved who it is.
func (d *Daemon) Who() string {
	if !d.made() {
		return ""
	}
	return d.link.Who()
}

// Dialling tells whether a script is played.
func (d *Daemon) Dialling() bool {
	return d.made() && d.run != nil
}

// Queue answers how many packets wait.
func (d *Daemon) Queue() int {
	if !d.made() {
		return 0
	}
	return d.queue.Len()
}

// Lost answers how many packets were lost, and how many bytes of the line.
func (d *Daemon) Lost() (int64, int64) {
	if !d.made() {
		return 0, 0
	}
	return d.lost.packets, d.lost.bytes
}

// Next answers when something is due.
func (d *Daemon) Next() (int64, api.Errno) {
	if !d.made() {
		return 0, api.ErrNil
	}
	var l []int64
	if at, e := d.policy.Next(); e == api.OK {
		l = append(l, at)
	}
	if at, waits := d.run.Deadline(); waits {
		l = append(l, at)
	}
	if at, e := d.link.Next(); e == api.OK {
		l = append(l, at)
	}
	if len(l) == 0 {
		return 0, api.ErrNone
	}
	return slices.Min(l), api.OK
}

// Counts answers what was counted of the packets that went, or that came.
func (d *Daemon) Counts(out bool) meter.Counts {
	if !d.made() {
		return meter.Counts{}
	}
	return d.link.Counts(out)
}

// Rate answers how many bytes of packets went, or came, in a second.
func (d *Daemon) Rate(out bool) float64 {
	c := d.Counts(out)
	return meter.Ratio(float64(c.Bytes)*1000, float64(d.Now())) // of nil 0 by 0
}

// Gain answers how much of the packets' bytes did not have to go over the line.
func (d *Daemon) Gain(out bool) float64 {
	c := d.Counts(out)
	return meter.Ratio(float64(c.Bytes-c.Wire), float64(c.Bytes))
}
