package ipv6cp

import (
	"slices"

	"tether/api"
	"tether/opt"
)

// look is how an end looks at options, one by one in their order.
type look struct {
	mine uint64
	met  bool // has the identifier's type been met?
}

// wrong tells whether an option can not be read, behind those that were looked at.
func (k *look) wrong(a api.Option) bool {
	again := k.met
	k.met = again || a.Type == OId
	return again || !right(a)
}

// refused tells whether an option can not be borne. Two ends that both want to be given an identifier give each other none.
func (k *look) refused(a api.Option) bool {
	return k.wrong(a) || k.mine == unknown && asked(a) == unknown
}

// taken tells whether who asks by a right option is to be given another identifier.
func (k *look) taken(a api.Option) bool {
	id := asked(a)
	return id == unknown || id == k.mine
}

// right tells whether an option has an identifier.
func right(a api.Option) bool {
	return a.Type == OId && len(a.Data) == idSize
}

// asked answers the identifier of a right option.
func asked(a api.Option) uint64 {
	var id uint64
	for _, b := range a.Data[:idSize:idSize] {
		id = id<<8 | uint64(b)
	}
	return id
}

// Read answers which identifier options ask, and whether they ask any.
func Read(l []api.Option) (uint64, bool, api.Errno) {
	var k look
	switch {
	case slices.ContainsFunc(l, k.wrong):
		return 0, false, api.ErrOpt
	case len(l) == 0:
		return 0, false, api.OK
	}
	return asked(l[0]), true, api.OK
}

// Judge answers the code and the options of the answer to a request with the options l of the other end, by this end's own identifier.
func Judge(c api.Conf, mine uint64, l []api.Option, naks int, draw uint64) (int, []api.Option) {
	k := look{mine: mine}
	if refused := those(l, k.refused); len(refused) > 0 {
		return api.CConfRej, refused
	}
	taken := those(l, k.taken)
	switch {
	case len(taken) > 0 && naks < c.MaxFailure, len(l) == 0 && naks == 0:
		return api.CConfNak, Options(Given(draw, mine))
	case len(taken) > 0: // told often enough
		return api.CConfRej, taken
	}
	return api.CConfAck, opt.Without(l)
}

// those answers the options that are so, with memory of its own.
func those(l []api.Option, so func(api.Option) bool) []api.Option {
	var out []api.Option
	for _, a := range l {
		if so(a) {
			out = append(out, a)
		}
	}
	return opt.Without(out) // copies all of them
}

// Nak answers what this end asks behind a Configure-Nak with the options l to its request of id, and whether that is something else.
func Nak(id uint64, l []api.Option, draw uint64) (uint64, bool) {
	for _, a := range slices.Backward(l) {
		if !right(a) {
			continue
		}
		k := look{mine: id}
		if k.taken(a) {
			return Given(draw, id), true
		}
		return asked(a), true
	}
	return id, false
}

// Reject answers what this end asks behind a Configure-Reject with the options l to its request of id; false, if it can't do without one of them.
func Reject(id uint64, l []api.Option) (uint64, bool) {
	if _, named := opt.Find(l, OId); named {
		return 0, false
	}
	return id, true
}
