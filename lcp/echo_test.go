package lcp

import (
	"bytes"
	"math"
	"slices"
	"testing"

	"tether/api"
)

func samePacket(a, b api.Packet) bool {
	return a.Code == b.Code && a.Id == b.Id && bytes.Equal(a.Data, b.Data)
}

func noPacket(p api.Packet) bool {
	return p.Code == 0 && p.Id == 0 && p.Data == nil
}

// echoes are the codes of packets that begin with a magic number.
func echoes() []int {
	return []int{api.CEchoReq, api.CEchoRep, api.CDiscard, api.CIdent}
}

// oddCodes are codes of packets that do not.
func oddCodes() []int {
	l := []int{math.MinInt, -1, 256, 256 + api.CEchoReq, 1<<32 + api.CEchoReq, math.MaxInt}
	for n := range 256 {
		if !slices.Contains(echoes(), n) {
			l = append(l, n)
		}
	}
	return l
}

// P11.5

func TestEchoAnswersARequest(t *testing.T) {
	for _, c := range []struct {
		id   int
		mine uint32
		data []byte
		want []byte
	}{
		{0, 7, []byte{0, 0, 0, 8}, []byte{0, 0, 0, 7}},
		{255, 0xfedcba98, []byte{0, 0, 0, 8, 1, 2}, []byte{0xfe, 0xdc, 0xba, 0x98, 1, 2}},
		{5, 7, []byte{0, 0, 0, 0, 9}, []byte{0, 0, 0, 7, 9}},
		{5, 7, []byte{7, 0, 0, 0, 9}, []byte{0, 0, 0, 7, 9}},
		{5, 0, []byte{0, 0, 0, 0, 9}, []byte{0, 0, 0, 0, 9}}, // no magic number is nobody's own
		{5, 7, make([]byte, api.MaxData), append([]byte{0, 0, 0, 7}, make([]byte, api.MaxData-4)...)},
	} {
		before := bytes.Clone(c.data)
		p, ok, e := Echo(api.Packet{Code: api.CEchoReq, Id: c.id, Data: c.data}, Opts{Magic: c.mine})
		if !samePacket(p, api.Packet{Code: api.CEchoRep, Id: c.id, Data: c.want}) || !ok || e != api.OK {
			t.Error(c.id, c.mine, len(c.data), ok, e)
		}
		if len(p.Data) > 0 {
			clear(p.Data)
		}
		if !bytes.Equal(c.data, before) {
			t.Error("memory is shared")
		}
	}
}

func TestEchoTakesTheOthers(t *testing.T) {
	for _, code := range echoes()[1:] {
		for _, id := range []int{0, 255, -1, 256, math.MaxInt} {
			for _, data := range [][]byte{{0, 0, 0, 8}, {0, 0, 0, 0, 1}, make([]byte, api.MaxData+1)} {
				if p, ok, e := Echo(api.Packet{Code: code, Id: id, Data: data}, Opts{Magic: 7}); !noPacket(p) || !ok || e != api.OK {
					t.Error(code, id, p, ok, e)
				}
			}
		}
	}
}

func TestEchoOfOnesOwn(t *testing.T) {
	for _, code := range echoes() {
		for _, data := range [][]byte{{0x80, 0, 0, 7}, {0x80, 0, 0, 7, 1, 2, 3}, append([]byte{0x80, 0, 0, 7}, make([]byte, api.MaxData)...)} {
			for _, id := range []int{1, -1, 256} {
				if p, ok, e := Echo(api.Packet{Code: code, Id: id, Data: data}, Opts{Magic: 0x80000007}); !noPacket(p) || ok || e != api.OK {
					t.Error(code, len(data), p, ok, e)
				}
			}
			if _, ok, e := Echo(api.Packet{Code: code, Data: data[:4]}, Opts{Magic: 7}); !ok || e != api.OK {
				t.Error(code, ok, e)
			}
		}
	}
}

func TestEchoRefuses(t *testing.T) {
	refused := func(p api.Packet, want api.Errno) {
		t.Helper()
		if q, ok, e := Echo(p, Opts{Magic: 7}); !noPacket(q) || ok || e != want {
			t.Error(p.Code, p.Id, len(p.Data), q.Code, ok, e)
		}
	}
	for _, code := range append(echoes(), oddCodes()...) {
		for n := range 4 {
			refused(api.Packet{Code: code, Id: -1, Data: []byte{0, 0, 0, 7}[:n]}, api.ErrShort)
		}
	}
	for _, code := range oddCodes() {
		refused(api.Packet{Code: code, Data: []byte{0, 0, 0, 8}}, api.ErrCode)
		refused(api.Packet{Code: code, Data: []byte{0, 0, 0, 7, 1}}, api.ErrCode)
	}
	long := make([]byte, api.MaxData+1)
	for _, id := range []int{math.MinInt, -1, 256, 1 << 32, math.MaxInt} {
		refused(api.Packet{Code: api.CEchoReq, Id: id, Data: []byte{0, 0, 0, 8}}, api.ErrCode)
		refused(api.Packet{Code: api.CEchoReq, Id: id, Data: long}, api.ErrCode)
	}
	refused(api.Packet{Code: api.CEchoReq, Id: 1, Data: long}, api.ErrSize)
}

func TestReply(t *testing.T) {
	for _, c := range []struct {
		code, id int
		magic    uint32
		data     []byte
		want     []byte
	}{
		{api.CEchoReq, 1, 0, nil, []byte{0, 0, 0, 0}},
		{api.CIdent, 255, 0x01020304, []byte("me"), []byte("\x01\x02\x03\x04me")},
		{0, 0, math.MaxUint32, []byte{0}, []byte{255, 255, 255, 255, 0}},
		{255, 255, 1, make([]byte, api.MaxData-4), append([]byte{0, 0, 0, 1}, make([]byte, api.MaxData-4)...)},
	} {
		p, e := Reply(c.code, c.id, c.magic, c.data)
		if !samePacket(p, api.Packet{Code: c.code, Id: c.id, Data: c.want}) || e != api.OK {
			t.Error(c.code, c.id, len(p.Data), e)
		}
	}
	data := []byte{1, 2, 3}
	p, _ := Reply(9, 9, 9, data)
	data[0] = 50
	clear(p.Data[:6])
	if !bytes.Equal(p.Data, []byte{0, 0, 0, 0, 0, 0, 3}) || !bytes.Equal(data, []byte{50, 2, 3}) {
		t.Error("memory is shared")
	}
}

func TestReplyRefuses(t *testing.T) {
	long := make([]byte, api.MaxData-3)
	for _, n := range []int{math.MinInt, -1, 256, 1 << 32, math.MaxInt} {
		for _, c := range []struct {
			code, id int
			data     []byte
		}{{n, 1, nil}, {1, n, nil}, {n, n, long}, {1, n, long}, {n, 1, long}} {
			if p, e := Reply(c.code, c.id, 1, c.data); !noPacket(p) || e != api.ErrCode {
				t.Error(c.code, c.id, len(c.data), e)
			}
		}
	}
	for _, data := range [][]byte{long, make([]byte, api.MaxData), make([]byte, 1<<20)} {
		if p, e := Reply(1, 1, 1, data); !noPacket(p) || e != api.ErrSize {
			t.Error(len(data), e)
		}
	}
}

func TestRejected(t *testing.T) {
	for _, data := range [][]byte{{0x80, 0xfd}, {0x80, 0xfd, 1}, append([]byte{0x80, 0xfd}, make([]byte, 20000)...)} {
		for _, id := range []int{1, -1, math.MaxInt} {
			if n, e := Rejected(api.Packet{Code: api.CProtRej, Id: id, Data: data}); n != api.PCcp || e != api.OK {
				t.Error(len(data), n, e)
			}
		}
	}
	for n := range 1 << 16 {
		if got, e := Rejected(api.Packet{Code: api.CProtRej, Data: []byte{byte(n >> 8), byte(n), 7}}); got != n || e != api.OK {
			t.Fatal(n, got, e)
		}
	}
	for _, data := range [][]byte{nil, {}, {0xc0}} {
		if n, e := Rejected(api.Packet{Code: api.CProtRej, Data: data}); n != 0 || e != api.ErrShort {
			t.Error(data, n, e)
		}
	}
	for code := -3; code < 300; code++ {
		for _, data := range [][]byte{nil, {0xc0}, {0xc0, 0x21}} {
			if n, e := Rejected(api.Packet{Code: code, Data: data}); code != api.CProtRej && (n != 0 || e != api.ErrCode) {
				t.Error(code, n, e)
			}
		}
	}
}
