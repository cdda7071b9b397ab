package pap

import (
	"slices"

	"tether/api"
)

// caught does read, and answers the error that it throws where something can not be read.
func caught(read func()) (e api.Errno) {
	defer func() {
		if thrown, is := recover().(api.Errno); is {
			e = thrown
		}
	}()
	read()
	return api.OK
}

// mustBe throws a packet whose identifier can not be, or whose code is none of codes.
func mustBe(p api.Packet, codes ...int) {
	if !idRight(p.Id) {
		panic(api.ErrArg)
	}
	if !slices.Contains(codes, p.Code) {
		panic(api.ErrCode)
	}
}

// parts answers the n parts that b consists of. It throws, if one ends too early, and then if something stands behind.
func parts(b []byte, n int) []string {
	var out []string
reading:
	for range n {
		switch {
		case len(b) == 0: // how many bytes it has is not there
			break reading
		case len(b) <= int(b[0]): // some of them are not
			break reading
		}
		behind := 1 + int(b[0])
		out = append(out, string(b[1:behind]))
		b = b[behind:]
	}
	switch {
	case len(out) < n:
		panic(api.ErrShort)
	case len(b) > 0:
		panic(api.ErrForm)
	}
	return out
}
