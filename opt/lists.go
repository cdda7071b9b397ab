package opt

import (
	"bytes"
	"cmp"
	"slices"

	"tether/api"
)

// Same tells whether two lists have the same options, in the same order.
func Same(a, b []api.Option) bool {
	return slices.EqualFunc(a, b, alike)
}

func alike(a, b api.Option) bool {
	return a.Type == b.Type && bytes.Equal(a.Data, b.Data)
}

// Find answers the first option of a type.
func Find(l []api.Option, kind int) (api.Option, bool) {
	n := place(l, kind)
	if n == len(l) {
		return api.Option{}, false
	}
	return clone(l[n]), true
}

// place answers where the first option of a type stands; behind all, if there is none.
func place(l []api.Option, kind int) int {
	for i, o := range l {
		if o.Type == kind {
			return i
		}
	}
	return len(l)
}

// clone answers o with data of its own, so that what is answered shares none with what was handed in.
func clone(o api.Option) api.Option {
	return api.Option{Type: o.Type, Data: bytes.Clone(o.Data)}
}

// Without answers the options whose types are not among kinds.
func Without(l []api.Option, kinds ...int) []api.Option {
	var out []api.Option
	for _, o := range l {
		if !slices.Contains(kinds, o.Type) {
			out = append(out, clone(o))
		}
	}
	return out
}

// Subset tells whether leaving some options out of l makes a.
func Subset(a, l []api.Option) bool {
	for _, o := range l {
		if len(a) > 0 && alike(a[0], o) {
			a = a[1:]
		}
	}
	return len(a) == 0
}

// Fits tells whether reply can be the options of an answer of that code to a request.
func Fits(code int, request, reply []api.Option) (bool, api.Errno) {
	switch code {
	case api.CConfAck:
		return Same(request, reply), api.OK
	case api.CConfNak:
		return len(reply) > 0 && follows(reply, request), api.OK
	case api.CConfRej:
		return len(reply) > 0 && Subset(reply, request), api.OK
	}
	return false, api.ErrCode
}

// follows tells whether reply's types stand in the order of their first places in request; those that request has not come behind all others, as place has it.
func follows(reply, request []api.Option) bool {
	return slices.IsSortedFunc(reply, func(a, b api.Option) int {
		return cmp.Compare(place(request, a.Type), place(request, b.Type))
	})
}
