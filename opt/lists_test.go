package opt

import (
	"bytes"
	"math"
	"slices"
	"testing"

	"tether/api"
)

// list answers options without data, of those types.
func list(kinds ...int) []api.Option {
	var l []api.Option
	for _, kind := range kinds {
		l = append(l, api.Option{Type: kind})
	}
	return l
}

// drawn answers options that are often alike.
func (d *draws) drawn() []api.Option {
	var l []api.Option
	for range d.next(6) {
		l = append(l, api.Option{Type: d.next(4), Data: []byte{1, 1}[:d.next(3)]})
	}
	return l
}

// P9.3

func TestSame(t *testing.T) {
	l := []api.Option{{Type: 1, Data: []byte{5, 6}}, {Type: 7}}
	for i, c := range []struct {
		a, b []api.Option
		want bool
	}{
		{nil, nil, true},
		{nil, []api.Option{}, true},
		{l, l, true},
		{l, []api.Option{{Type: 1, Data: []byte{5, 6}}, {Type: 7, Data: []byte{}}}, true},
		{list(math.MinInt, 300), list(math.MinInt, 300), true},
		{l, nil, false},
		{l, l[:1], false},
		{l, []api.Option{l[1], l[0]}, false},
		{l, []api.Option{{Type: 1, Data: []byte{5, 7}}, {Type: 7}}, false},
		{l, []api.Option{{Type: 1, Data: []byte{5}}, {Type: 7}}, false},
		{l, []api.Option{{Type: 2, Data: []byte{5, 6}}, {Type: 7}}, false},
		{l, []api.Option{{Type: 1, Data: []byte{5, 6}}, {Type: 7, Data: []byte{0}}}, false},
		{list(-1), list(255), false},
	} {
		if Same(c.a, c.b) != c.want || Same(c.b, c.a) != c.want {
			t.Error(i)
		}
	}
}

func TestFind(t *testing.T) {
	l := []api.Option{{Type: 1, Data: []byte{5}}, {Type: 7}, {Type: 1, Data: []byte{6}}, {Type: -3, Data: []byte{8}}}
	for _, c := range []struct {
		kind int
		want api.Option
		ok   bool
	}{
		{1, l[0], true}, {7, l[1], true}, {-3, l[3], true},
		{0, api.Option{}, false}, {2, api.Option{}, false}, {math.MaxInt, api.Option{}, false}, {math.MinInt, api.Option{}, false},
	} {
		if o, ok := Find(l, c.kind); !alike(o, c.want) || ok != c.ok {
			t.Error(c.kind, o, ok)
		}
	}
	if o, ok := Find(nil, 0); ok || o.Type != 0 || o.Data != nil {
		t.Error(o, ok)
	}
	o, _ := Find(l, 1)
	o.Data[0] = 9
	if l[0].Data[0] != 5 {
		t.Error("what is found is what was handed in")
	}
}

func TestWithout(t *testing.T) {
	l := list(1, 2, 3, 2, -1)
	for i, c := range []struct{ kinds, want []int }{
		{nil, []int{1, 2, 3, 2, -1}},
		{[]int{4, 0, math.MaxInt, math.MinInt}, []int{1, 2, 3, 2, -1}},
		{[]int{2}, []int{1, 3, -1}},
		{[]int{-1, 1, 1}, []int{2, 3, 2}},
		{[]int{1, 2, 3, -1}, nil},
	} {
		before := slices.Clone(c.kinds)
		if got := Without(l, c.kinds...); !Same(got, list(c.want...)) || !slices.Equal(before, c.kinds) {
			t.Error(i, got)
		}
	}
	if got := Without(nil, 1); len(got) != 0 {
		t.Error(got)
	}
	if !Same(l, list(1, 2, 3, 2, -1)) {
		t.Error("the list has changed")
	}
}

func TestWithoutAnswersDataOfItsOwn(t *testing.T) {
	b := []byte{5, 6, 7, 8}
	l := []api.Option{{Type: 1, Data: b[:2]}, {Type: 2, Data: b[2:]}}
	got := Without(l)
	got[0].Data = append(got[0].Data, 9)
	clear(got[0].Data)
	clear(got[1].Data)
	got[0].Type = 77
	if !bytes.Equal(b, []byte{5, 6, 7, 8}) || l[0].Type != 1 {
		t.Error(b, l)
	}
}

func TestSubset(t *testing.T) {
	l := []api.Option{{Type: 1, Data: []byte{5}}, {Type: 7}, {Type: 1, Data: []byte{6}}, {Type: 7}}
	for i, c := range []struct {
		a, l []api.Option
		want bool
	}{
		{nil, nil, true}, {nil, l, true}, {l, l, true},
		{l[:1], l, true}, {l[1:3], l, true}, {l[3:], l, true},
		{[]api.Option{l[0], l[2]}, l, true},
		{list(7, 7), l, true},
		{list(7, 7, 7), l, false},
		{[]api.Option{l[2], l[0]}, l, false},
		{[]api.Option{l[2], l[1], l[3]}, l, false},
		{list(1), l, false},
		{[]api.Option{{Type: 1, Data: []byte{5, 6}}}, l, false},
		{append(slices.Clone(l), l[3]), l, false},
		{l, nil, false},
	} {
		if Subset(c.a, c.l) != c.want {
			t.Error(i)
		}
	}
}

// chosen tells whether leaving some options out of l makes a, by trying each choice.
func chosen(a, l []api.Option) bool {
	if len(l) == 0 || len(a) == 0 {
		return len(a) == 0
	}
	return chosen(a, l[1:]) || alike(a[0], l[0]) && chosen(a[1:], l[1:])
}

func TestSubsetIsAChoice(t *testing.T) {
	var d draws = 1
	found := 0
	for range 50000 {
		a, l := d.drawn(), d.drawn()
		if Subset(a, l) != chosen(a, l) {
			t.Fatal(a, l)
		}
		if len(a) > 1 && Subset(a, l) {
			found++
		}
	}
	if found < 100 {
		t.Error(found)
	}
}

// P9.7

// left answers l with some options left out.
func (d *draws) left(l []api.Option) []api.Option {
	return slices.DeleteFunc(slices.Clone(l), func(api.Option) bool { return d.next(4) == 0 })
}

func TestSubsetGoesOn(t *testing.T) {
	var d draws = 2
	for range 20000 {
		c := append(d.drawn(), d.drawn()...)
		b := d.left(c)
		a := d.left(b)
		if !Subset(b, c) || !Subset(a, b) || !Subset(a, c) {
			t.Fatal(a, b, c)
		}
		o := d.drawn()
		if Subset(o, a) && !Subset(o, b) || Subset(o, b) && !Subset(o, c) {
			t.Fatal(o, a, b, c)
		}
	}
}

func TestWithoutIsASubset(t *testing.T) {
	var d draws = 3
	for range 10000 {
		l := d.drawn()
		kinds := []int{d.next(5), d.next(5), d.next(5)}[:d.next(4)]
		got := Without(l, kinds...)
		if !Subset(got, l) {
			t.Fatal(l, got)
		}
		left := 0
		for _, o := range l {
			if !slices.Contains(kinds, o.Type) {
				left++
			}
		}
		for _, kind := range kinds {
			if _, ok := Find(got, kind); ok {
				t.Fatal(kind, got)
			}
		}
		if len(got) != left {
			t.Fatal(l, kinds, got)
		}
	}
}

// P9.4

func TestFits(t *testing.T) {
	request := []api.Option{{Type: 1, Data: []byte{5, 6}}, {Type: 5, Data: []byte{9}}, {Type: 7}, {Type: 1, Data: []byte{8}}}
	one := func(kind int, data ...byte) api.Option { return api.Option{Type: kind, Data: data} }
	for i, c := range []struct {
		code           int
		request, reply []api.Option
		want           bool
	}{
		{api.CConfAck, nil, nil, true},
		{api.CConfAck, request, request, true},
		{api.CConfAck, request, request[:3], false},
		{api.CConfAck, request[:3], request, false},
		{api.CConfAck, request, nil, false},
		{api.CConfAck, request[:1], list(1), false},
		{api.CConfRej, nil, nil, false},
		{api.CConfRej, request, nil, false},
		{api.CConfRej, request, request, true},
		{api.CConfRej, request, request[1:2], true},
		{api.CConfRej, request, []api.Option{request[0], request[2]}, true},
		{api.CConfRej, request, []api.Option{request[2], request[0]}, false},
		{api.CConfRej, request, []api.Option{request[2], request[3]}, true},
		{api.CConfRej, request, list(5), false},
		{api.CConfRej, request[:1], request, false},
		{api.CConfNak, nil, nil, false},
		{api.CConfNak, request, nil, false},
		{api.CConfNak, request, []api.Option{one(1, 3)}, true},
		{api.CConfNak, request, []api.Option{one(1), one(5, 1, 2), one(7)}, true},
		{api.CConfNak, request, []api.Option{one(1), one(7)}, true},
		{api.CConfNak, request, []api.Option{one(7), one(5)}, false},
		{api.CConfNak, request, []api.Option{one(7), one(1)}, false}, // 1 stands first ahead of 7, and later behind it
		{api.CConfNak, request, []api.Option{one(1), one(5), one(1)}, false},
		{api.CConfNak, request, []api.Option{one(1, 3), one(1, 4), one(5)}, true}, // several values of one type
		{api.CConfNak, request, []api.Option{one(3)}, true},
		{api.CConfNak, request, []api.Option{one(5), one(3), one(2)}, true},
		{api.CConfNak, request, []api.Option{one(3), one(5)}, false},
		{api.CConfNak, request, []api.Option{one(1), one(3), one(7)}, false},
		{api.CConfNak, request, []api.Option{one(7), one(3), one(2), one(3)}, true},
		{api.CConfNak, nil, list(9, 2, 9), true},
		{api.CConfNak, list(-1, 300), list(-1, 300, math.MinInt), true},
		{api.CConfNak, list(-1, 300), list(300, -1), false},
	} {
		if ok, e := Fits(c.code, c.request, c.reply); ok != c.want || e != api.OK {
			t.Error(i, ok, e)
		}
	}
}

func TestFitsOfOtherCodes(t *testing.T) {
	for code := -2; code < 300; code++ {
		if code >= api.CConfAck && code <= api.CConfRej {
			continue
		}
		if ok, e := Fits(code, list(1), list(1)); ok || e != api.ErrCode {
			t.Error(code, ok, e)
		}
	}
	for _, code := range []int{math.MinInt, math.MaxInt, api.CConfAck + 1<<32} {
		if ok, e := Fits(code, nil, nil); ok || e != api.ErrCode {
			t.Error(code, ok, e)
		}
	}
}

// naks tells whether reply can be a Nak of request, by the words: each two of its options whose types request has stand as these do there, and none of the others is ahead of one of them.
func naks(request, reply []api.Option) bool {
	for i, a := range reply {
		for _, b := range reply[i+1:] {
			pa := slices.IndexFunc(request, func(o api.Option) bool { return o.Type == a.Type })
			pb := slices.IndexFunc(request, func(o api.Option) bool { return o.Type == b.Type })
			if pb >= 0 && (pa < 0 || pa > pb) {
				return false
			}
		}
	}
	return len(reply) > 0
}

func TestFitsIsAsItsWords(t *testing.T) {
	var d draws = 4
	fit := 0
	for range 50000 {
		request, reply := d.drawn(), d.drawn()
		if ok, e := Fits(api.CConfAck, request, reply); ok != Same(request, reply) || e != api.OK {
			t.Fatal(request, reply, ok, e)
		}
		if ok, e := Fits(api.CConfRej, request, reply); ok != (len(reply) > 0 && chosen(reply, request)) || e != api.OK {
			t.Fatal(request, reply, ok, e)
		}
		ok, e := Fits(api.CConfNak, request, reply)
		if ok != naks(request, reply) || e != api.OK {
			t.Fatal(request, reply, ok, e)
		}
		if ok && len(reply) > 2 {
			fit++
		}
	}
	if fit < 100 {
		t.Error(fit)
	}
}

func TestListsAreNotChanged(t *testing.T) {
	var d draws = 5
	for range 5000 {
		a, l := d.drawn(), d.drawn()
		ba, bl := Without(a), Without(l)
		Same(a, l)
		Subset(a, l)
		Find(a, 1)
		Without(l, 1, 2)
		for code := api.CConfAck; code <= api.CConfRej; code++ {
			Fits(code, l, a)
		}
		Bytes(a...)
		if !Same(a, ba) || !Same(l, bl) {
			t.Fatal(a, l)
		}
	}
}

// P9.5

func TestKind(t *testing.T) {
	for n := -300; n < 600; n++ {
		if s := Kind(n); s != called(n) {
			t.Error(n, s)
		}
	}
	for _, n := range []int{math.MinInt, math.MaxInt, 1 << 32, 1<<32 + 1} {
		if s := Kind(n); s != "" {
			t.Error(n, s)
		}
	}
}

func called(code int) string {
	switch code {
	case api.CConfReq:
		return "conf-req"
	case api.CConfAck:
		return "conf-ack"
	case api.CConfNak:
		return "conf-nak"
	case api.CConfRej:
		return "conf-rej"
	case api.CTermReq:
		return "term-req"
	case api.CTermAck:
		return "term-ack"
	case api.CCodeRej:
		return "code-rej"
	case api.CProtRej:
		return "prot-rej"
	case api.CEchoReq:
		return "echo-req"
	case api.CEchoRep:
		return "echo-rep"
	case api.CDiscard:
		return "discard"
	case api.CIdent:
		return "ident"
	case api.CResetReq:
		return "reset-req"
	case api.CResetAck:
		return "reset-ack"
	}
	return ""
}
