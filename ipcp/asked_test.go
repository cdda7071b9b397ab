package ipcp

import (
	"math"
	"testing"

	"tether/api"
	"tether/conf"
	"tether/opt"
)

// local answers a configuration with an address of its own; 0: any.
func local(addr int64) api.Conf {
	c := conf.Default()
	c.LocalIp = addr
	return c
}

// P15.3

func TestNak(t *testing.T) {
	for i, k := range []struct {
		own  int64
		o    Opts
		l    []api.Option
		want Opts
	}{
		{0, Opts{0, -1, -1}, list(isTwo(3)), Opts{two, -1, -1}},
		{0, Opts{5, -1, -1}, list(isTwo(3)), Opts{two, -1, -1}},
		{0, Opts{5, -1, -1}, list(one(3, 255, 255, 255, 255)), Opts{math.MaxUint32, -1, -1}},
		{0, Opts{5, -1, -1}, list(one(3, 0, 0, 0, 0)), Opts{5, -1, -1}},
		{0, Opts{-1, -1, -1}, list(isTwo(3)), Opts{-1, -1, -1}},
		{7, Opts{7, -1, -1}, list(isTwo(3)), Opts{7, -1, -1}},
		{7, Opts{0, -1, -1}, list(isTwo(3)), Opts{0, -1, -1}},
		{0, Opts{0, 0, 0}, list(one(129, 1, 2, 3, 4), one(131, 5, 6, 7, 8)), Opts{0, 0x01020304, 0x05060708}},
		{7, Opts{7, 0, 0}, list(one(131, 5, 6, 7, 8), isTwo(3)), Opts{7, 0, 0x05060708}},
		{0, Opts{0, 4, 5}, list(one(129, 0, 0, 0, 0), one(131, 0, 0, 0, 0)), Opts{0, 0, 0}},
		{0, Opts{0, -1, 5}, list(one(129, 1, 2, 3, 4), one(131, 1, 2, 3, 4)), Opts{0, -1, 0x01020304}},
		{0, Opts{0, 5, -1}, list(one(129, 1, 2, 3, 4), one(131, 1, 2, 3, 4)), Opts{0, 0x01020304, -1}},
		{0, Opts{0, 0, 0}, nil, Opts{0, 0, 0}},
		// the last one of a type counts
		{0, Opts{0, 0, 0}, list(one(3, 1, 1, 1, 1), one(129, 1, 1, 1, 1), isTwo(3), isTwo(129)), Opts{two, two, 0}},
		{0, Opts{5, 0, 0}, list(one(3, 1, 1, 1, 1), one(3, 0, 0, 0, 0)), Opts{5, 0, 0}},
		{0, Opts{0, 6, 0}, list(one(129, 1, 1, 1, 1), one(129, 0, 0, 0, 6)), Opts{0, 6, 0}},
		// of those with four bytes
		{0, Opts{0, 0, 0}, list(isTwo(3), one(3), one(3, 1, 2, 3), one(3, 1, 2, 3, 4, 5)), Opts{two, 0, 0}},
		{0, Opts{0, 0, 0}, list(one(3, 1, 2, 3), one(129), one(131, 1, 2, 3, 4, 5)), Opts{0, 0, 0}},
	} {
		got, changed := Nak(local(k.own), k.o, k.l)
		if got != k.want || changed != (k.want != k.o) {
			t.Error(i, got, changed)
		}
	}
}

func TestNakPassesOverTypesThatAreNone(t *testing.T) {
	for _, kind := range oddKinds() {
		o := Opts{0, 0, 0}
		if got, changed := Nak(local(0), o, list(isTwo(kind), one(kind))); got != o || changed {
			t.Error(kind, got, changed)
		}
		if got, changed := Nak(local(0), o, list(isTwo(kind), isTwo(3), isTwo(kind))); got != (Opts{two, 0, 0}) || !changed {
			t.Error(kind, got, changed)
		}
	}
}

func TestNakOfNumbersThatAreNoAddresses(t *testing.T) {
	l := list(isTwo(3), isTwo(129), isTwo(131))
	for _, n := range noAddrs() {
		want, own := Opts{two, two, two}, Opts{n, two, two}
		if n == -1 {
			want, own = Opts{-1, -1, -1}, Opts{-1, -1, -1}
		}
		if got, changed := Nak(local(0), Opts{n, n, n}, l); got != want || changed != (n != -1) {
			t.Error(n, got, changed)
		}
		if got, _ := Nak(local(n), Opts{n, n, n}, l); got != own {
			t.Error(n, got)
		}
	}
}

func TestReject(t *testing.T) {
	o := Opts{4, 5, 6}
	for i, k := range []struct {
		own  int64
		l    []api.Option
		want Opts
		can  bool
	}{
		{0, nil, o, true},
		{9, nil, o, true},
		{0, list(one(3)), Opts{-1, 5, 6}, true},
		{0, list(one(129, 1, 2, 3, 4)), Opts{4, -1, 6}, true},
		{0, list(one(131, 0, 0)), Opts{4, 5, -1}, true},
		{0, list(one(131), one(3), one(129), one(3)), Opts{-1, -1, -1}, true},
		{9, list(one(131), one(129)), Opts{4, -1, -1}, true},
		{9, list(one(3)), o, false},
		{9, list(one(129), one(131), one(3)), o, false},
		{9, list(one(3), one(129), one(131)), o, false},
		{-9, list(one(3)), o, false},
		{math.MaxInt64, list(isTwo(3)), o, false},
	} {
		if got, can := Reject(local(k.own), o, k.l); got != k.want || can != k.can {
			t.Error(i, got, can)
		}
	}
	for _, kind := range oddKinds() {
		for _, own := range []int64{0, 9} {
			if got, can := Reject(local(own), o, list(isTwo(kind), one(kind))); got != o || !can {
				t.Error(kind, got, can)
			}
		}
	}
}

func TestNakAndRejectLeaveWhatIsHandedIn(t *testing.T) {
	l := list(isTwo(3), isTwo(129), one(131, 1))
	before := opt.Without(l)
	Nak(local(0), Opts{}, l)
	Reject(local(0), Opts{}, l)
	if !opt.Same(l, before) {
		t.Error(l)
	}
}

// P15.6

// rounds plays requests of one end, each judged by the other one, till one is acknowledged; it answers how many that took, and what was asked last. can is false, if the asking end can't do without what is refused.
func rounds(asking, judging api.Conf, give int64) (n int, o Opts, can bool) {
	o = Want(asking)
	naks := 0
	for n = 1; n < 20; n++ {
		code, answer := Judge(judging, give, Options(o), naks)
		switch code {
		case api.CConfAck:
			return n, o, true
		case api.CConfNak:
			naks++
			o, _ = Nak(asking, o, answer)
		case api.CConfRej:
			naks = 0
			if o, can = Reject(asking, o, answer); !can {
				return n, o, false
			}
		}
	}
	return n, o, true
}

func TestItEndsWithinFourRounds(t *testing.T) {
	var d draws = 3
	most := 0
	for range 100000 {
		asking, judging, give := d.drawnConf(), d.drawnConf(), d.address()
		if give != 0 && asking.LocalIp != 0 && give != asking.LocalIp {
			continue // it does not bear what it is given
		}
		n, o, can := rounds(asking, judging, give)
		if !can || n > 4 {
			t.Fatal(asking, judging, give, n, o, can)
		}
		most = max(most, n)
		if give != 0 && o.Addr != give {
			t.Error(o, give)
		}
		if asking.UseDns && (judging.Dns1 != 0) != (o.Dns1 != -1) {
			t.Error(o, judging.Dns1)
		}
	}
	if most < 3 {
		t.Error(most)
	}
}

func TestOneThatDoesNotBearWhatItIsGivenIsRefused(t *testing.T) {
	judging := conf.Default()
	n, o, can := rounds(local(7), judging, two)
	if can || n != judging.MaxFailure+1 || o.Addr != 7 {
		t.Error(n, o, can)
	}
}
