package daemon

import (
	"tether/api"
	"tether/code"
)

// The versions of packets, by their first half byte.
const (
	ipv4 = 4
	ipv6 = 6
)

// versionOf answers the version that a packet says; 0, if it is none of IP, nor of IPv6.
func versionOf(b []byte) int {
	if len(b) > 0 {
		if v := int(b[0] >> 4); v == ipv4 || v == ipv6 {
			return v
		}
	}
	return 0
}

// tells tells whether a packet is one for which a link is wanted.
func (d *Daemon) tells(b []byte) bool {
	if d.conf.Filter == "" {
		return versionOf(b) != 0
	}
	told, _, _ := code.Run(d.program, b)
	return told
}

// tell tells the policy of a packet, if it is one for which a link is wanted.
func (d *Daemon) tell(b []byte) {
	if d.tells(b) {
		d.obey(d.policy.Packet(d.now, true))
	}
}

// goes tells whether a packet's network is ready.
func (d *Daemon) goes(b []byte) bool {
	ip, ip6 := d.link.Ready()
	if versionOf(b) == ipv6 {
		return ip6
	}
	return ip
}

// waits tells whether a packet of the same network waits.
func (d *Daemon) waits(b []byte) bool {
	_, is := d.queue.Find(func(o []byte) bool { return versionOf(o) == versionOf(b) })
	return is
}

// send lets a packet go.
func (d *Daemon) send(b []byte) {
	out, e := d.link.Send(d.now, b)
	if e != api.OK {
		d.lost.packets++
	}
	d.pass(out, e)
}

// sendWaiting lets the first packet go whose network is ready; false, if none can.
func (d *Daemon) sendWaiting() bool {
	at, is := d.queue.Find(d.goes)
	if is {
		d.send(d.queue.Cut(at))
	}
	return is
}

// dropWaiting loses all packets that wait.
func (d *Daemon) dropWaiting() {
	d.lost.packets += int64(d.queue.Len())
	d.queue.Clear()
}
