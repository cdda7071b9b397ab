package ccp

import (
	"tether/api"
	"tether/opt"
)

// Judge answers the code and the options of the answer to a request with the options l of the other end.
func Judge(c api.Conf, l []api.Option, naks int) (int, []api.Option) {
	left := Want(c) // the bits that may be asked of methods that were not met
	var refused, stood, nakked []api.Option
options:
	for _, a := range l {
		most := left.take(a.Type)
		if most == none || len(a.Data) != size(a.Type) {
			refused = append(refused, a)
			continue options
		}
		if bits := asked(a); bits == none || bits > most {
			stood = append(stood, a)
			nakked = append(nakked, option(a.Type, most))
		}
	}
	switch {
	case len(refused) > 0:
		return api.CConfRej, clone(refused)
	case len(nakked) > 0 && naks < c.MaxFailure:
		return api.CConfNak, nakked
	case len(nakked) > 0: // told often enough
		return api.CConfRej, clone(stood)
	}
	return api.CConfAck, clone(l)
}

// clone answers l with memory of its own: with no type left out.
func clone(l []api.Option) []api.Option {
	return opt.Without(l)
}

// Nak answers what this end asks behind a Configure-Nak with the options l to its request of o, and whether that is something else.
func Nak(c api.Conf, o Opts, l []api.Option) (Opts, bool) {
	told := o
	for _, a := range l {
		if bits := asked(a); bits != none {
			*told.field(a.Type) = bits
		}
	}
	asks := Opts{Deflate: min(told.Deflate, o.Deflate), Bsd: min(told.Bsd, o.Bsd)}
	return asks, asks != o
}

// Reject answers what this end asks behind a Configure-Reject with the options l to its request of o: it can do without each.
func Reject(c api.Conf, o Opts, l []api.Option) (Opts, bool) {
	asks := o
	for _, a := range l {
		asks.take(a.Type)
	}
	return asks, true
}
