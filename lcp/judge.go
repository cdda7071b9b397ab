package lcp

import (
	"slices"

	"tether/api"
	"tether/opt"
)

// Judge answers the code and the options of the answer to a request with the options l.
func Judge(c api.Conf, mine Opts, l []api.Option, naks int, magic uint32) (int, []api.Option) {
	var refused, stood, nakked []api.Option
	again := repeats()
options:
	for _, a := range l {
		bears := bearing(a.Type, c, mine, magic)
		var other []byte
		var differs bool
		if again(a.Type) || !holds(func() { other, differs = bears(a.Data) }) {
			refused = append(refused, a)
			continue options
		}
		if differs {
			stood = append(stood, a)
			nakked = append(nakked, api.Option{Type: a.Type, Data: other})
		}
	}
	switch {
	case len(refused) > 0:
		return api.CConfRej, clone(refused)
	case len(nakked) > 0 && naks < c.MaxFailure:
		return api.CConfNak, nakked
	case len(nakked) > 0: // told often enough
		return api.CConfRej, clone(stood)
	}
	return api.CConfAck, clone(l)
}

// clone answers l with memory of its own: with no type left out.
func clone(l []api.Option) []api.Option {
	return opt.Without(l)
}

// bearer answers with which data an option is borne in place of its own, and true; false, if with its own. Data that are not borne, and would not be with others, are thrown.
type bearer func(data []byte) ([]byte, bool)

// bearing answers what an option of a type is borne with.
func bearing(kind int, c api.Conf, mine Opts, magic uint32) bearer {
	switch {
	case kind == OMru:
		return nearest(api.MinMru, api.MaxMru)
	case kind == OAccm:
		return sized(accmSize)
	case kind == OAuth && len(c.Accept) > 0:
		return among(c.Accept)
	case kind == OMagic && c.Magic:
		return unlike(mine.Magic, magic)
	case kind == OPfc && c.Pfc, kind == OAcfc && c.Acfc:
		return sized(0)
	}
	return func([]byte) ([]byte, bool) { panic(api.ErrOpt) }
}

// nearest bears an Mru, or the nearest one that can be.
func nearest(least, most int) bearer {
	return func(data []byte) ([]byte, bool) {
		n := int(number(data, mruSize))
		near := min(max(n, least), most)
		return lowest(uint64(near), mruSize), near != n
	}
}

// sized bears all data of so many bytes.
func sized(size int) bearer {
	return func(data []byte) ([]byte, bool) {
		must(len(data) == size)
		return nil, false
	}
}

// among bears the methods of a list, or in place of others its first one.
func among(methods []int) bearer {
	return func(data []byte) ([]byte, bool) {
		must(len(data) >= protoSize)
		m := Method(data)
		return Auth(methods[0]), m == 0 || !slices.Contains(methods, m)
	}
}

// unlike bears a magic number that is not this end's own, or in place of that, and of 0, another one.
func unlike(mine, other uint32) bearer {
	return func(data []byte) ([]byte, bool) {
		n := uint32(number(data, magicSize))
		return lowest(uint64(other), magicSize), n == 0 || n == mine
	}
}
