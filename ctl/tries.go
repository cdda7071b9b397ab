package ctl

import (
	"tether/api"
	"tether/chat"
	"tether/conf"
	"tether/fcs"
	"tether/filter"
	"tether/hdlc"
	"tether/md5"
	"tether/octet"
	"tether/secret"
)

// The commands here try something, of what they are given alone, or on top of the configuration.

// again answers how what was read is written.
func again[T any](l T, e api.Errno, at int, write func(T) (string, api.Errno)) reply {
	if e != api.OK {
		return wrongAt(e, at)
	}
	return written(write(l))
}

// filter answers an expression as it is written.
func (d *Desk) filter(given []string) reply {
	l, e, at := filter.Parse(given[0])
	return again(l, e, at, filter.Print)
}

// tells answers whether an expression tells a packet.
func (d *Desk) tells(given []string) reply {
	l, e, at := filter.Parse(given[1])
	if e != api.OK {
		return wrongAt(e, at)
	}
	return ofBytes(given[0], func(b []byte) reply {
		holds, e := filter.Holds(l, b)
		switch {
		case e != api.OK:
			return wrong(e)
		case holds:
			return tell("yes")
		}
		return tell("no")
	})
}

// chat answers a script as it is written.
func (d *Desk) chat(given []string) reply {
	l, e, at := chat.Parse(given[0])
	return again(l, e, at, chat.Print)
}

// secret answers how many secrets there are.
func (d *Desk) secret(given []string) reply {
	l, e, at := secret.Parse(given[0])
	if e != api.OK {
		return wrongAt(e, at)
	}
	return tell(number(int64(len(l))))
}

// options answers the configuration as it would be.
func (d *Desk) options(given []string) reply {
	c, e, at := conf.Over(d.daemon.Conf(), given[0])
	return again(c, e, at, conf.Print)
}

// ofBytes answers what is made of bytes that are given as digits.
func ofBytes(digits string, does func(b []byte) reply) reply {
	b, e := octet.Unhex(digits)
	if e != api.OK {
		return wrong(e)
	}
	return does(b)
}

// md5 answers bytes' digest.
func (d *Desk) md5(given []string) reply {
	return ofBytes(given[0], func(b []byte) reply {
		sum := md5.Sum(b)
		return tell(md5.Hex(sum[:]))
	})
}

// fcs answers bytes' sum.
func (d *Desk) fcs(given []string) reply {
	return ofBytes(given[0], func(b []byte) reply {
		sum := fcs.Sum16(b)
		return tell(octet.Hex([]byte{byte(sum >> 8), byte(sum)}))
	})
}

// frame answers the frame that has those bytes.
func (d *Desk) frame(given []string) reply {
	return ofBytes(given[0], func(b []byte) reply {
		f, e := hdlc.Parse(b, true, true)
		if e != api.OK {
			return wrong(e)
		}
		return tell(number(int64(f.Proto)), octet.Hex(f.Info))
	})
}
