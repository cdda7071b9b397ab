package lcp

import "tether/api"

// Nak answers what this end asks behind a Configure-Nak with the options l to its request of o, and whether that is something else.
func Nak(c api.Conf, o Opts, l []api.Option, magic uint32) (Opts, bool) {
	asks := o
	for _, a := range l {
		holds(func() { asks = told(c, o, asks, a, magic) }) // what throws is passed over: it leaves asks as it is
	}
	return asks, asks != o
}

// told answers asks, which came of o, with what one more option of a Configure-Nak does to it. Data of another size are thrown.
func told(c api.Conf, o, asks Opts, a api.Option, magic uint32) Opts {
	switch a.Type {
	case OMru:
		asks.Mru = max(min(int(number(a.Data, mruSize)), c.Mru), api.MinMru)
	case OAccm:
		says := int64(number(a.Data, accmSize))
		if o.Accm != noAccm {
			asks.Accm = o.Accm | says
		}
	case OMagic:
		must(len(a.Data) == magicSize)
		if o.Magic != 0 {
			asks.Magic = magic
		}
	}
	return asks
}

// Reject answers what this end asks behind a Configure-Reject with the options l to its request of o; false, if it can't do without one of them.
func Reject(c api.Conf, o Opts, l []api.Option) (Opts, bool) {
	none := Default()
	asks := o
	for _, a := range l {
		switch a.Type {
		case OMru:
			asks.Mru = none.Mru
		case OAccm:
			asks.Accm = none.Accm
		case OAuth:
			if c.Require != 0 {
				return o, false
			}
		case OMagic:
			asks.Magic = none.Magic
		case OPfc:
			asks.Pfc = none.Pfc
		case OAcfc:
			asks.Acfc = none.Acfc
		}
	}
	return asks, true
}
