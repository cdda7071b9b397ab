package ccp

import (
	"bytes"
	"math"
	"testing"

	"tether/api"
	"tether/bsd"
	"tether/inflate"
)

// text answers n bytes of few or many kinds, some of which stand there more than once in a row.
func (d *draws) text(n int) []byte {
	kinds := 1 << d.next(9)
	out := make([]byte, 0, n)
	for len(out) < n {
		if len(out) > 0 && d.next(8) == 0 {
			back := 1 + d.next(len(out))
			for range min(1+d.next(1<<d.next(10)), n-len(out)) {
				out = append(out, out[len(out)-back])
			}
			continue
		}
		out = append(out, byte(d.next(kinds)))
	}
	return out
}

// frame answers one that can be sent.
func (d *draws) frame() api.Frame {
	protos := []int{0x21, 0x21, 0x21, 0x57, 0x01, 0xff, 0x0201, 0x3eff, 0x4001, 0x8021, 0x80fd, 0xc021, 0xfeff}
	return frame(protos[d.next(len(protos))], d.text(d.next(1<<d.next(11)))...)
}

// allOpts are those of ends without a method, and with each one.
func allOpts() []Opts {
	return []Opts{{}, {8, 0}, {12, 0}, {15, 0}, {15, 15}, {8, 12}, {0, 9}, {0, 12}, {0, 15}}
}

// packing are those of ends that have a method.
func packing() []Opts {
	return allOpts()[1:]
}

// plainPacker packs as a sender is to.
func plainPacker(o Opts) func(b []byte) []byte {
	if o.Deflate != 0 {
		p := inflate.NewPacker(o.Deflate)
		return func(b []byte) []byte {
			out, _ := p.Pack(b)
			return out
		}
	}
	d := bsd.New(o.Bsd)
	return func(b []byte) []byte {
		out, _, _ := d.Pack(b)
		return out
	}
}

// isCompressed tells whether a frame is, by the words.
func isCompressed(f api.Frame) bool {
	b, _ := Bytes(f)
	return f.Proto < 0x4000 && f.Proto != 0xfd && len(b) <= 16384
}

// sends checks that s sends f as want.
func sends(t *testing.T, what string, s *Sender, f, want api.Frame) {
	t.Helper()
	before := bytes.Clone(f.Info)
	if got, e := s.Send(f); !sameFrame(got, want) || e != api.OK {
		t.Fatalf("%s: %x %d instead of %x", what, got, e, want)
	}
	if !bytes.Equal(f.Info, before) {
		t.Error(what, "what was handed in is changed")
	}
}

// takes checks that r takes f as want.
func takes(t *testing.T, what string, r *Receiver, f, want api.Frame) {
	t.Helper()
	before, state := bytes.Clone(f.Info), r.State()
	if got, e := r.Take(f); !sameFrame(got, want) || e != api.OK || r.State() != state {
		t.Fatalf("%s: %x %d instead of %x, then %d", what, got, e, want, r.State())
	}
	if !bytes.Equal(f.Info, before) {
		t.Error(what, "what was handed in is changed")
	}
}

// loses checks that r refuses f, and is Lost then.
func loses(t *testing.T, what string, r *Receiver, f api.Frame, want api.Errno) {
	t.Helper()
	if got, e := r.Take(f); !noFrame(got) || e != want || r.State() != Lost {
		t.Fatalf("%s: %x %d instead of %d, then %d", what, got, e, want, r.State())
	}
}

// resets checks that a lost receiver asks for a reset, and gets it of s.
func resets(t *testing.T, s *Sender, r *Receiver, id int) {
	t.Helper()
	q, e := r.Ask(id)
	if q.Code != api.CResetReq || q.Id != id || len(q.Data) != 0 || e != api.OK || r.State() != Lost {
		t.Fatal(q, e)
	}
	a, e := s.Reset(q)
	if a.Code != api.CResetAck || a.Id != id || len(a.Data) != 0 || e != api.OK {
		t.Fatal(a, e)
	}
	if e := r.Ack(a); e != api.OK || r.State() != Good {
		t.Fatal(e, r.State())
	}
}

// P22.5

func TestEndsOfBits(t *testing.T) {
	if Good != 0 || Lost != 1 {
		t.Error(Good, Lost)
	}
	for a := -2; a < 20; a++ {
		for b := -2; b < 20; b++ {
			right := (a == 0 || a >= 8 && a <= 15) && (b == 0 || b >= 9 && b <= 15)
			s, r := NewSender(Opts{a, b}), NewReceiver(Opts{a, b})
			if (s != nil) != right || (r != nil) != right || r.State() != Good {
				t.Error(a, b)
			}
		}
	}
	for _, n := range oddBits() {
		for _, o := range []Opts{{n, 0}, {n, 12}, {0, n}, {12, n}, {n, n}} {
			if NewSender(o) != nil || NewReceiver(o) != nil {
				t.Error(o)
			}
		}
	}
}

func TestNilEnds(t *testing.T) {
	var s *Sender
	var r *Receiver
	for _, f := range []api.Frame{{}, frame(0x21, 1), frame(0xfd, 0, 0), frame(0x21, make([]byte, api.MaxMru+1)...)} {
		got, e := s.Send(f)
		if !noFrame(got) || e != api.ErrNil {
			t.Error(got, e)
		}
		if got, e = r.Take(f); !noFrame(got) || e != api.ErrNil {
			t.Error(got, e)
		}
	}
	for _, p := range []api.Packet{{}, {Code: 14, Id: 1}, {Code: 15, Id: 1}, {Code: 99, Id: 999}} {
		if got, e := s.Reset(p); got.Code != 0 || got.Id != 0 || got.Data != nil || e != api.ErrNil {
			t.Error(got, e)
		}
		if e := r.Ack(p); e != api.ErrNil {
			t.Error(e)
		}
		if got, e := r.Ask(p.Id); got.Code != 0 || got.Id != 0 || got.Data != nil || e != api.ErrNil {
			t.Error(got, e)
		}
	}
	if r.State() != Good {
		t.Error(r.State())
	}
}

func TestSendWithoutAMethod(t *testing.T) {
	var d draws = 5
	s, r := NewSender(Opts{}), NewReceiver(Opts{})
	for range 300 {
		f := d.frame()
		sends(t, "as it is", s, f, f)
		takes(t, "as it is", r, f, f)
	}
}

func TestSendRefuses(t *testing.T) {
	long := make([]byte, api.MaxMru+1)
	for _, o := range allOpts() {
		s := NewSender(o)
		for _, n := range noProtos() {
			for _, info := range [][]byte{nil, long} {
				if f, e := s.Send(frame(n, info...)); !noFrame(f) || e != api.ErrProto {
					t.Error(o, n, e)
				}
			}
		}
		for proto, want := range map[int]api.Errno{0x21: api.ErrSize, 0x8021: api.ErrSize, 0xfd: api.ErrSize} {
			if f, e := s.Send(frame(proto, long...)); !noFrame(f) || e != want {
				t.Error(o, proto, e)
			}
		}
		for _, info := range [][]byte{nil, {0, 0, 1}, long[:api.MaxMru]} {
			if f, e := s.Send(frame(0xfd, info...)); !noFrame(f) || e != api.ErrProto {
				t.Error(o, e)
			}
		}
		r := NewReceiver(o) // what is refused changed nothing
		f := frame(0x21, make([]byte, 200)...)
		g, e := s.Send(f)
		if e != api.OK {
			t.Error(e)
		}
		takes(t, "behind what was refused", r, g, f)
	}
}

func TestSendPacksByTheMethod(t *testing.T) {
	var d draws = 6
	for _, o := range packing() {
		packed, plain := 0, 0
		for range 8 {
			s, pack := NewSender(o), plainPacker(o)
			for range 40 {
				f := d.frame()
				if !isCompressed(f) {
					sends(t, "not compressed", s, f, f)
					continue
				}
				b, _ := Bytes(f)
				want := f
				if out := pack(b); len(out) < len(b) {
					want = frame(0xfd, out...)
					packed++
				} else {
					plain++
				}
				sends(t, "compressed", s, f, want)
			}
		}
		if packed < 20 || plain < 20 {
			t.Error(o, packed, plain)
		}
	}
}

func TestSendOfWhatIsNotCompressed(t *testing.T) {
	zeros := make([]byte, 1000)
	for _, o := range packing() {
		s, pack := NewSender(o), plainPacker(o)
		for proto, compressed := range map[int]bool{0x21: true, 0xff: true, 0x0201: true, 0x3e01: true, 0x3eff: true, 0x4001: false, 0x4021: false, 0x8021: false, 0xc021: false, 0xfeff: false} {
			f := frame(proto, zeros...)
			if !compressed {
				sends(t, "a high number", s, f, f)
				continue
			}
			b, _ := Bytes(f)
			sends(t, "a low number", s, f, frame(0xfd, pack(b)...))
		}
		for _, c := range []struct{ proto, n int }{{0x21, 16383}, {0x0201, 16382}, {0x21, 16384}, {0x0201, 16383}, {0x0201, 16384}, {0x57, 16383}} {
			f := frame(c.proto, make([]byte, c.n)...)
			b, _ := Bytes(f)
			if len(b) > 16384 {
				sends(t, "too many bytes", s, f, f)
				continue
			}
			sends(t, "as many bytes as may be", s, f, frame(0xfd, pack(b)...))
		}
	}
}

func TestWhatGoesHasFewerBytes(t *testing.T) {
	for _, o := range packing() {
		for n := range 60 {
			s, pack := NewSender(o), plainPacker(o)
			f := frame(0x21, make([]byte, n)...)
			b, _ := Bytes(f)
			want, out := f, pack(b)
			if len(out) < n+1 {
				want = frame(0xfd, out...)
			}
			sends(t, "zeros", s, f, want)
		}
	}
}

func TestReset(t *testing.T) {
	var d draws = 7
	for _, o := range allOpts() {
		s := NewSender(o)
		for _, id := range []int{0, 1, 127, 255} {
			for range 5 {
				s.Send(d.frame())
			}
			p, e := s.Reset(api.Packet{Code: api.CResetReq, Id: id, Data: []byte{1, 2}})
			if p.Code != api.CResetAck || p.Id != id || len(p.Data) != 0 || e != api.OK {
				t.Error(p, e)
			}
			fresh := NewSender(o)
			for range 5 {
				f := d.frame()
				want, _ := fresh.Send(f)
				sends(t, "as new", s, f, want)
			}
		}
	}
}

func TestResetRefuses(t *testing.T) {
	f := frame(0x21, make([]byte, 100)...)
	for _, o := range allOpts() {
		s, other := NewSender(o), NewSender(o)
		s.Send(f)
		other.Send(f)
		for code := -1; code < 300; code++ {
			for _, id := range []int{math.MinInt, -1, 256, math.MaxInt} {
				if p, e := s.Reset(api.Packet{Code: code, Id: id}); p.Code != 0 || p.Id != 0 || e != api.ErrArg {
					t.Error(code, id, p, e)
				}
			}
			if p, e := s.Reset(api.Packet{Code: code, Id: 5}); code != 14 && (p.Code != 0 || p.Id != 0 || e != api.ErrCode) {
				t.Error(code, p, e)
			} else if code == 14 {
				other.Reset(api.Packet{Code: 14, Id: 5})
				s.Send(f)
				other.Send(f)
			}
		}
		want, _ := other.Send(f)
		sends(t, "what is refused changes nothing", s, f, want)
	}
}

func TestWhatIsSentIsNewMemory(t *testing.T) {
	for _, o := range allOpts() {
		for _, f := range []api.Frame{frame(0x21, 1, 2, 3, 4), frame(0x8021, 1, 2, 3, 4), frame(0x21, make([]byte, 99)...)} {
			s, r := NewSender(o), NewReceiver(o)
			for range 3 {
				before := bytes.Clone(f.Info)
				g, _ := s.Send(f)
				h, _ := r.Take(g)
				if !sameFrame(h, frame(f.Proto, before...)) {
					t.Error(o, h)
				}
				_ = append(h.Info[:0], bytes.Repeat([]byte{8}, cap(h.Info))...)
				_ = append(g.Info[:0], bytes.Repeat([]byte{9}, cap(g.Info))...)
				if !bytes.Equal(f.Info, before) {
					t.Error(o, "what was handed in is changed")
				}
			}
		}
	}
}

// P22.6

func TestTakeOfTheExample(t *testing.T) {
	f := frame(0x21, make([]byte, 100)...)
	for _, o := range packing() {
		s, r := NewSender(o), NewReceiver(o)
		first, _ := s.Send(f)
		s.Send(f)
		third, _ := s.Send(f)
		takes(t, "0", r, first, f)
		loses(t, "2", r, third, api.ErrSeq)
		resets(t, s, r, 5)
		first, _ = s.Send(f)
		takes(t, "0", r, first, f)
	}
}

func TestTakeRefuses(t *testing.T) {
	long := make([]byte, api.MaxMru+1)
	for _, o := range allOpts() {
		r := NewReceiver(o)
		for _, n := range noProtos() {
			for _, info := range [][]byte{nil, long} {
				if f, e := r.Take(frame(n, info...)); !noFrame(f) || e != api.ErrProto {
					t.Error(o, n, e)
				}
			}
		}
		for _, proto := range []int{0x21, 0x8021, 0xfd} {
			if f, e := r.Take(frame(proto, long...)); !noFrame(f) || e != api.ErrSize {
				t.Error(o, proto, e)
			}
		}
		if r.State() != Good {
			t.Error(o, "is lost")
		}
	}
	r := NewReceiver(Opts{})
	for _, info := range [][]byte{nil, {0, 0}, {0, 0, 0x4a, 0x04, 0x00}} {
		if f, e := r.Take(frame(0xfd, info...)); !noFrame(f) || e != api.ErrProto || r.State() != Good {
			t.Error(f, e, r.State())
		}
	}
}

func TestTakeOfPacketsThatCanNotBe(t *testing.T) {
	for i, c := range []struct {
		o    Opts
		info []byte
		want api.Errno
	}{
		{Opts{12, 0}, nil, api.ErrShort},
		{Opts{12, 0}, []byte{0}, api.ErrShort},
		{Opts{12, 0}, []byte{0, 1, 0x4a, 0x04, 0x00}, api.ErrSeq},
		{Opts{12, 0}, []byte{0, 0, 0xff}, api.ErrData},
		{Opts{12, 12}, []byte{0, 0, 0xff, 0xff}, api.ErrData},
		{Opts{0, 12}, nil, api.ErrShort},
		{Opts{0, 12}, []byte{0, 0, 0}, api.ErrShort},
		{Opts{0, 12}, []byte{1, 0, 0x10, 0x80}, api.ErrSeq},
		{Opts{0, 12}, []byte{0, 0, 0xff, 0xff}, api.ErrData},
		{Opts{0, 12}, []byte{0, 0, 0x10, 0xff}, api.ErrData},
	} {
		r := NewReceiver(c.o)
		loses(t, "case "+string(rune('a'+i)), r, frame(0xfd, c.info...), c.want)
		for range 2 {
			if f, e := r.Take(frame(0xfd, c.info...)); !noFrame(f) || e != api.ErrState || r.State() != Lost {
				t.Error(i, f, e)
			}
		}
	}
}

// packedAs answers a packed frame of bytes, by a new end.
func packedAs(o Opts, b []byte) api.Frame {
	return frame(0xfd, plainPacker(o)(b)...)
}

func TestTakeOfPackedBytesThatAreNoFrame(t *testing.T) {
	sized := func(head []byte, n int) []byte {
		return append(bytes.Clone(head), make([]byte, n-len(head))...)
	}
	for _, c := range []struct {
		what string
		b    []byte
		want api.Errno
	}{
		{"half a number", []byte{0x80}, api.ErrShort},
		{"half a number", []byte{0x00}, api.ErrShort},
		{"no number", []byte{0x00, 0x20, 1}, api.ErrProto},
		{"no number", []byte{0x20, 0x20}, api.ErrProto},
		{"a packed one", []byte{0xfd, 1, 2}, api.ErrProto},
		{"a packed one", []byte{0x00, 0xfd, 1, 2}, api.ErrProto},
		{"a high one", []byte{0x40, 0x01, 1}, api.ErrProto},
		{"a high one", []byte{0x80, 0x21, 1}, api.ErrProto},
		{"a high one", []byte{0xc0, 0x21, 1}, api.ErrProto},
		{"a low one", []byte{0x3e, 0xff, 1}, api.OK},
		{"one byte", []byte{0x21}, api.OK},
		{"two bytes where one would do", []byte{0x00, 0x21, 0x45}, api.OK},
		{"as many as may be", sized([]byte{0x21}, 16384), api.OK},
		{"as many as may be", sized([]byte{0x3e, 0xff}, 16384), api.OK},
		{"one too many", sized([]byte{0x21}, 16385), api.ErrProto},
		{"one too many", sized([]byte{0x00, 0x21}, 16385), api.ErrProto},
		{"two too many", sized([]byte{0x00, 0x21}, 16386), api.ErrProto},
		{"two too many", sized([]byte{0x21}, 16386), api.ErrSize},
		{"two too many of a high one", sized([]byte{0x80, 0x21}, 16386), api.ErrProto},
	} {
		for _, o := range []Opts{{15, 0}, {8, 12}, {0, 12}, {0, 15}} {
			if o.Deflate == 0 && len(c.b) > 16384 {
				continue // which its packets can not have
			}
			r := NewReceiver(o)
			if c.want != api.OK {
				loses(t, c.what, r, packedAs(o, c.b), c.want)
				continue
			}
			want, _ := Frame(c.b)
			takes(t, c.what, r, packedAs(o, c.b), want)
		}
	}
}

func TestTakeLearnsWhatIsCompressedAlone(t *testing.T) {
	zeros := make([]byte, 16384)
	packed := frame(0x21, zeros[:200]...)
	for _, o := range packing() {
		for _, f := range []api.Frame{
			frame(0x21, 1), frame(0x8021, 1), frame(0x3eff, 1), frame(0x4001, 1), frame(0xc021), frame(0x21),
			frame(0x21, zeros...), frame(0x0201, zeros[1:]...), frame(0x0201, zeros...),
		} {
			s, r := NewSender(o), NewReceiver(o)
			takes(t, "as it is", r, f, f)
			g, _ := s.Send(packed)
			if isCompressed(f) { // it was learned, so another packet is due
				loses(t, "what was learned", r, g, api.ErrSeq)
				continue
			}
			takes(t, "what was not learned", r, g, packed)
		}
	}
}

func TestWhatIsLostLearnsNothing(t *testing.T) {
	short, long := frame(0x21, 1, 2), frame(0x21, make([]byte, 200)...)
	for _, o := range packing() {
		s, r := NewSender(o), NewReceiver(o)
		loses(t, "no packet", r, frame(0xfd), api.ErrShort)
		for range 3 {
			takes(t, "lost", r, short, short) // these are not learned
			takes(t, "lost", r, frame(0x8021, 5), frame(0x8021, 5))
		}
		g, _ := s.Send(long)
		if f, e := r.Take(g); !noFrame(f) || e != api.ErrState {
			t.Error(f, e)
		}
		resets(t, s, r, 0)
		g, _ = s.Send(long)
		takes(t, "good", r, g, long)
	}
}

func TestAskAndAck(t *testing.T) {
	ack := func(id int) api.Packet { return api.Packet{Code: api.CResetAck, Id: id, Data: []byte{1}} }
	for _, o := range packing() {
		r := NewReceiver(o)
		refused := func(what string, id int, want api.Errno) {
			t.Helper()
			before := r.State()
			if p, e := r.Ask(id); p.Code != 0 || p.Id != 0 || p.Data != nil || e != want || r.State() != before {
				t.Error(what, p, e)
			}
		}
		acks := func(what string, p api.Packet, want api.Errno) {
			t.Helper()
			before := r.State()
			if e := r.Ack(p); e != want || want != api.OK && r.State() != before {
				t.Error(what, p, e, r.State())
			}
		}
		for _, id := range []int{math.MinInt, -1, 256, math.MaxInt} {
			refused("good", id, api.ErrArg)
			acks("good", ack(id), api.ErrArg)
		}
		refused("good", 5, api.ErrState)
		acks("good", ack(0), api.ErrState)
		acks("good", api.Packet{Code: 14, Id: 0}, api.ErrCode)
		loses(t, "no packet", r, frame(0xfd), api.ErrShort)
		acks("not asked", ack(0), api.ErrState)
		for _, id := range []int{math.MinInt, -1, 256, math.MaxInt} {
			refused("lost", id, api.ErrArg)
			acks("lost", api.Packet{Code: 99, Id: id}, api.ErrArg)
		}
		for _, id := range []int{0, 255, 6, 5} {
			if p, e := r.Ask(id); p.Code != 14 || p.Id != id || len(p.Data) != 0 || e != api.OK || r.State() != Lost {
				t.Error(p, e)
			}
		}
		refused("asked", 256, api.ErrArg)
		acks("another one", ack(6), api.ErrArg)
		acks("another one", ack(0), api.ErrArg)
		for code := -1; code < 300; code++ {
			if code != 15 {
				acks("no Reset-Ack", api.Packet{Code: code, Id: 5}, api.ErrCode)
				acks("no Reset-Ack", api.Packet{Code: code, Id: 6}, api.ErrCode)
			}
		}
		if f, e := r.Take(frame(0xfd, 0, 0)); !noFrame(f) || e != api.ErrState {
			t.Error(f, e)
		}
		acks("the last one asked", ack(5), api.OK)
		if r.State() != Good {
			t.Error(r.State())
		}
		acks("once more", ack(5), api.ErrState)
		refused("good again", 5, api.ErrState)
		loses(t, "lost again", r, frame(0xfd), api.ErrShort)
		acks("not asked again", ack(5), api.ErrState)
	}
}

// P22.7

func TestWhatIsSentComesOut(t *testing.T) {
	var d draws = 8
	for _, o := range allOpts() {
		for range 10 {
			s, r := NewSender(o), NewReceiver(o)
			for range 60 {
				f := d.frame()
				g, e := s.Send(f)
				if e != api.OK {
					t.Fatal(e)
				}
				takes(t, "all of it", r, g, f)
			}
		}
	}
}

func TestWhatIsSentComesOutOfManyKinds(t *testing.T) {
	var d draws = 9
	for a := 0; a <= 15; a++ {
		for b := 0; b <= 15; b++ {
			s, r := NewSender(Opts{a, b}), NewReceiver(Opts{a, b})
			if s == nil {
				continue
			}
			for range 8 {
				f := d.frame()
				g, _ := s.Send(f)
				takes(t, "all of it", r, g, f)
			}
		}
	}
}

// P22.8

func TestWhatComesOutWasSent(t *testing.T) {
	var d draws = 10
	for _, o := range packing() {
		came, lost, resets := 0, 0, 0
		for range 30 {
			s, r := NewSender(o), NewReceiver(o)
			id := 0
			for range 80 {
				f := d.frame()
				g, _ := s.Send(f)
				if d.next(6) == 0 {
					lost++
					continue
				}
				h, e := r.Take(g)
				if e == api.OK && !sameFrame(h, f) {
					t.Fatalf("%x instead of %x", h, f)
				}
				if e == api.OK {
					came++
				}
				if r.State() != Lost || d.next(3) == 0 {
					continue
				}
				id++
				q, _ := r.Ask(id % 256)
				if d.next(4) == 0 {
					continue // the request is lost
				}
				p, _ := s.Reset(q)
				if d.next(4) == 0 {
					continue // the answer is lost
				}
				if e := r.Ack(p); e != api.OK || r.State() != Good {
					t.Fatal(e)
				}
				resets++
				f = d.frame()
				g, _ = s.Send(f)
				takes(t, "behind a reset", r, g, f)
			}
		}
		if came < 500 || lost < 100 || resets < 20 {
			t.Error(o, came, lost, resets)
		}
	}
}

// P1

func TestTakeOfAnyBytes(t *testing.T) {
	var d draws = 11
	for _, o := range packing() {
		for range 300 {
			s, r := NewSender(o), NewReceiver(o)
			n := d.next(4)
			for range n {
				f := frame(0x21, d.text(d.next(300))...)
				g, _ := s.Send(f)
				r.Take(g)
			}
			b := append([]byte{0, byte(n)}, d.text(d.next(100))...)
			f, e := r.Take(frame(0xfd, b...))
			switch {
			case e == api.OK && (r.State() != Good || !isCompressed(f)):
				t.Error(f, r.State())
			case e != api.OK && (r.State() != Lost || !noFrame(f)):
				t.Error(f, e, r.State())
			}
		}
	}
}

func TestEndsThatNobodyMade(t *testing.T) {
	var s Sender
	var r Receiver
	f := frame(0x21, make([]byte, 99)...)
	sends(t, "no method", &s, f, f)
	takes(t, "no method", &r, f, f)
	s.Reset(api.Packet{Code: api.CResetReq})
	r.Ask(0)
	if e := r.Ack(api.Packet{Code: api.CResetAck}); e != api.ErrState {
		t.Error(e)
	}
}
