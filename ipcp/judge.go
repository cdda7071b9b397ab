package ipcp

import (
	"tether/api"
	"tether/opt"
)

// Judge answers the code and the options of the answer to a request with the options l of the other end, to whom the address give is given; 0: none is.
func Judge(c api.Conf, give int64, l []api.Option, naks int) (int, []api.Option) {
	if !isAddr(give) {
		give = unknown
	}
	due := terms(c, give)
	var refused, stood, nakked []api.Option
	for _, a := range l {
		gives, bears := due[a.Type]
		delete(due, a.Type) // what is met has no place any more: the second one of a type is refused
		switch {
		case !bears || len(a.Data) != addrSize || gives == unknown && addr(a.Data) == unknown:
			refused = append(refused, a)
		case gives != unknown && addr(a.Data) != gives:
			stood = append(stood, a)
			nakked = append(nakked, option(a.Type, gives))
		}
	}
	if _, left := due[OAddr]; left && naks == 0 && give != unknown {
		nakked = append(nakked, option(OAddr, give))
	}
	switch {
	case len(refused) > 0:
		return api.CConfRej, clone(refused)
	case len(nakked) > 0 && naks < c.MaxFailure:
		return api.CConfNak, nakked
	case len(stood) > 0: // told often enough
		return api.CConfRej, clone(stood)
	}
	return api.CConfAck, clone(l)
}

// terms answers, by the types that are borne, the addresses that they must have. Where none is given, any address is borne that is one.
func terms(c api.Conf, give int64) map[int]int64 {
	all := map[int]int64{OAddr: give, ODns1: c.Dns1, ODns2: c.Dns2}
	for kind, n := range all {
		if n == unknown && kind != OAddr {
			delete(all, kind)
		}
	}
	return all
}

// clone answers l with memory of its own: with no type left out.
func clone(l []api.Option) []api.Option {
	return opt.Without(l)
}
