package ipcp

import "tether/api"

// Nak answers what this end asks behind a Configure-Nak with the options l to its request of o, and whether that is something else.
func Nak(c api.Conf, o Opts, l []api.Option) (Opts, bool) {
	told := last(l)
	if c.LocalIp != unknown || told[OAddr] == unknown {
		delete(told, OAddr)
	}
	asks := o
	for kind, n := range told {
		if f := field(&asks, kind); f != nil && *f != notAsked {
			*f = n
		}
	}
	return asks, asks != o
}

// last answers by types what the last option of each says, of those that have an address.
func last(l []api.Option) map[int]int64 {
	says := map[int]int64{}
	for _, a := range l {
		if len(a.Data) == addrSize {
			says[a.Type] = addr(a.Data)
		}
	}
	return says
}

// Reject answers what this end asks behind a Configure-Reject with the options l to its request of o; false, if it can't do without one of them.
func Reject(c api.Conf, o Opts, l []api.Option) (Opts, bool) {
	asks := o
	for _, a := range l {
		if a.Type == OAddr && c.LocalIp != unknown {
			return o, false
		}
		if f := field(&asks, a.Type); f != nil {
			*f = notAsked
		}
	}
	return asks, true
}
