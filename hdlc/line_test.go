package hdlc

import (
	"bytes"
	"iter"
	"math"
	"slices"
	"testing"

	"tether/api"
	"tether/fcs"
)

// open answers a line that takes all, and drops what accm names.
func open(t *testing.T, accm int64) *Line {
	t.Helper()
	l := New(api.MaxMru, accm, true, true)
	if l == nil {
		t.Fatal("no line")
	}
	return l
}

// between puts flags around what stands between them.
func between(b ...byte) []byte {
	return append(append([]byte{0x7e}, b...), 0x7e)
}

// escapedWithAll is a body as it stands on the line, its flags too.
func escapedWithAll(t *testing.T, body []byte) []byte {
	t.Helper()
	b, e := Escape(body, math.MaxUint32)
	if e != api.OK {
		t.Fatal(e)
	}
	return between(b...)
}

func encoded(t *testing.T, f api.Frame, s Send) []byte {
	t.Helper()
	b, e := Encode(f, s)
	if e != api.OK {
		t.Fatal(f, s, e)
	}
	return b
}

func framesAre(t *testing.T, got []api.Frame, want ...api.Frame) {
	t.Helper()
	if !slices.EqualFunc(got, want, sameFrame) {
		t.Fatalf("%v instead of %v", got, want)
	}
}

// ip is a frame of IP with that information.
func ip(info ...byte) api.Frame {
	return api.Frame{Proto: api.PIp, Info: info}
}

// P3.3

func TestNewRefuses(t *testing.T) {
	for _, mru := range []int{0, 1, api.MinMru - 1, api.MaxMru + 1, -64, math.MinInt, math.MaxInt} {
		if New(mru, 0, true, true) != nil {
			t.Error("mru", mru)
		}
	}
	for _, accm := range wrongMaps() {
		if New(1500, accm, false, false) != nil {
			t.Error("map", accm)
		}
	}
	for _, mru := range []int{api.MinMru, 1500, api.MaxMru} {
		for _, accm := range []int64{0, 1, math.MaxUint32} {
			if l := New(mru, accm, false, true); l == nil || l.Counts() != (Counts{}) {
				t.Error(mru, accm)
			}
		}
	}
}

func TestFeedAsInTheExamples(t *testing.T) {
	l := open(t, 0)
	framesAre(t, l.Feed([]byte{0x7e, 0x7e, 0x7e}))
	request := api.Frame{Proto: api.PLcp, Info: []byte{1, 1, 0, 4}}
	framesAre(t, l.Feed(encoded(t, request, Send{})), request)
	if l.Counts() != (Counts{Frames: 1}) {
		t.Error(l.Counts())
	}
	framesAre(t, l.Feed([]byte{0x7e, 0x41, 0x7d, 0x7e}))
	if l.Counts() != (Counts{Frames: 1, Aborts: 1}) {
		t.Error(l.Counts())
	}
	framesAre(t, l.Feed([]byte{0x7e, 0x41, 0x7e}))
	if l.Counts() != (Counts{Frames: 1, Aborts: 1, Runts: 1}) {
		t.Error(l.Counts())
	}
}

func TestWhatIsNoFrameIsCounted(t *testing.T) {
	good := fcs.Put16([]byte{0xff, 3, 0, 0x21})
	for _, c := range []struct {
		name string
		b    []byte
		want Counts
	}{
		{"none", nil, Counts{}},
		{"one escape", []byte{0x7d}, Counts{Aborts: 1}},
		{"an escaped escape", []byte{0x7d, 0x7d}, Counts{Aborts: 1}},
		{"three escapes", []byte{0x7d, 0x7d, 0x7d}, Counts{Aborts: 1}},
		{"a good frame and an escape", append(slices.Clone(good), 0x7d), Counts{Aborts: 1}},
		{"one byte", []byte{1}, Counts{Runts: 1}},
		{"three bytes", []byte{1, 2, 3}, Counts{Runts: 1}},
		{"three bytes, escaped", []byte{0x7d, 0x21, 0x7d, 0x22, 0x7d, 0x23}, Counts{Runts: 1}},
		{"three bytes that are good", fcs.Put16([]byte{0x21}), Counts{Runts: 1}},
		{"four bytes", []byte{1, 2, 3, 4}, Counts{Sums: 1}},
		{"an escape that stands for another byte", []byte{0x7d, 0x7d, 0x41, 1, 2}, Counts{Sums: 1}},
		{"a sum that is good of no frame", fcs.Put16([]byte{0xff, 3}), Counts{Wrong: 1}},
		{"no protocol's number", fcs.Put16([]byte{0xff, 3, 0, 0x22}), Counts{Wrong: 1}},
		{"the shortest frame", fcs.Put16([]byte{0x21, 0x45}), Counts{Frames: 1}},
		{"a frame", good, Counts{Frames: 1}},
	} {
		l := open(t, 0)
		l.Feed(between(c.b...))
		if l.Counts() != c.want {
			t.Error(c.name, l.Counts())
		}
	}
}

func TestALineTakesNothingShortThatItMayNot(t *testing.T) {
	whole := encoded(t, ip(1), Send{})
	short := encoded(t, ip(1), Send{Pfc: true})
	bare := encoded(t, ip(1), Send{Acfc: true})
	both := encoded(t, ip(1), Send{Pfc: true, Acfc: true})
	stream := slices.Concat(whole, short, bare, both)
	for _, c := range []struct {
		pfc, acfc bool
		frames    int64
	}{{false, false, 1}, {true, false, 2}, {false, true, 2}, {true, true, 4}} {
		l := New(64, 0, c.pfc, c.acfc)
		l.Feed(stream)
		if l.Counts() != (Counts{Frames: c.frames, Wrong: 4 - c.frames}) {
			t.Error(c, l.Counts())
		}
	}
}

func TestGiantsAreLongerThanTheLongest(t *testing.T) {
	for _, mru := range []int{64, 65, 1500, api.MaxMru} {
		for more, want := range []Counts{{Frames: 1}, {Giants: 1}, {Giants: 1}} {
			info := bytes.Repeat([]byte{0x11}, mru+more)
			l := New(mru, 0, false, false)
			l.Feed(escapedWithAll(t, fcs.Put16(append([]byte{0xff, 3, 0, 0x21}, info...))))
			if l.Counts() != want {
				t.Error(mru, more, l.Counts())
			}
			framesAre(t, l.Feed(encoded(t, ip(1), Send{})), ip(1))
		}
	}
	l := New(64, 0, true, true)
	f := ip(bytes.Repeat([]byte{7}, 67)...)
	framesAre(t, l.Feed(encoded(t, f, Send{Pfc: true, Acfc: true})), f) // 70 bytes: what is left away makes room
	l.Feed(between(make([]byte, 71)...))
	l.Feed(between(make([]byte, 70)...))
	if l.Counts() != (Counts{Frames: 1, Giants: 1, Sums: 1}) {
		t.Error("with a wrong sum:", l.Counts())
	}
}

func TestAGiantThatEndsInAnEscapeIsAnAbort(t *testing.T) {
	l := New(64, 0, true, true)
	l.Feed(between(append(make([]byte, 500), 0x7d)...))
	l.Feed(between(append(make([]byte, 500), 0x7d, 0x7d)...))
	l.Feed(between(append(make([]byte, 500), 0x7d, 0x5d)...))
	if l.Counts() != (Counts{Aborts: 2, Giants: 1}) {
		t.Error(l.Counts())
	}
}

// What comes first is taken as behind a flag.
func TestALineBeginsBetweenFrames(t *testing.T) {
	l := open(t, 0)
	framesAre(t, l.Feed(encoded(t, ip(1, 2), Send{})[1:]), ip(1, 2))
	l.Feed([]byte("CONNECT\r\n"))
	framesAre(t, l.Feed(encoded(t, ip(3), Send{})), ip(3))
	if l.Counts() != (Counts{Frames: 2, Sums: 1}) {
		t.Error(l.Counts())
	}
	one := open(t, 0)
	one.Feed([]byte{1, 0x7e})
	if one.Counts() != (Counts{Runts: 1}) {
		t.Error(one.Counts())
	}
}

func TestOneFlagStandsBetweenTwoFrames(t *testing.T) {
	a, b := encoded(t, ip(1), Send{}), encoded(t, ip(2), Send{})
	framesAre(t, open(t, 0).Feed(append(a, b[1:]...)), ip(1), ip(2))
}

func TestResetForgetsWhatHasComeSinceTheLastFlag(t *testing.T) {
	for _, piece := range [][]byte{nil, {1}, {0x7d}, {1, 2, 3, 4, 5, 0x7d}, {0x7d, 0x7d}, make([]byte, 2*api.MaxMru)} {
		l := open(t, 0)
		l.Feed(between(1))
		l.Feed(piece)
		l.Reset()
		if l.Counts() != (Counts{Runts: 1}) {
			t.Error("Reset counts, or forgets what was counted:", l.Counts())
		}
		framesAre(t, l.Feed(encoded(t, ip(9), Send{})[1:]), ip(9))
		l.Reset()
		l.Feed([]byte{0x7e})
		if l.Counts() != (Counts{Runts: 1, Frames: 1}) {
			t.Error("behind Reset something is left:", l.Counts())
		}
	}
}

func TestLineOfNil(t *testing.T) {
	var l *Line
	l.Reset()
	if len(l.Feed(encoded(t, ip(1), Send{}))) != 0 || l.Counts() != (Counts{}) {
		t.Error("a nil line tells something")
	}
	for range l.Each(encoded(t, ip(1), Send{})) {
		t.Error("a nil line tells a frame")
	}
}

func TestALineSharesNothing(t *testing.T) {
	l := open(t, 0)
	stream := slices.Concat(encoded(t, ip(1, 2), Send{}), encoded(t, ip(3, 4), Send{}))
	in := slices.Clone(stream)
	got := l.Feed(in)
	framesAre(t, got, ip(1, 2), ip(3, 4))
	_ = append(got[0].Info, 90, 91, 92, 93, 94, 95)
	got[0].Info[0] = 99
	framesAre(t, got[1:], ip(3, 4))
	if !bytes.Equal(in, stream) {
		t.Error("what was handed in is changed")
	}
	l.Feed(in[:7])
	clear(in[:7])
	framesAre(t, l.Feed(in[7:]), ip(1, 2), ip(3, 4))
	each := l.Each(stream)
	clear(stream)
	framesAre(t, slices.Collect(each), ip(1, 2), ip(3, 4))
}

// P3.3, P3.9

func TestEachTellsWhatFeedTells(t *testing.T) {
	var d draws = 3
	for range 300 {
		b := noise(&d, 300)
		one, two := open(t, 1<<17), open(t, 1<<17)
		framesAre(t, slices.Collect(two.Each(b)), one.Feed(b)...)
		if one.Counts() != two.Counts() {
			t.Fatal(one.Counts(), two.Counts())
		}
	}
}

func TestEachThatIsNotAskedTakesNothing(t *testing.T) {
	l := open(t, 0)
	l.Each(between(1))
	if l.Counts() != (Counts{}) {
		t.Error(l.Counts())
	}
	framesAre(t, l.Feed(encoded(t, ip(1), Send{})), ip(1))
}

func TestEachThatIsLeftTakesNoByteBehind(t *testing.T) {
	rest := slices.Concat([]byte{0x7d}, between(1), []byte{0x41, 0x42}, encoded(t, ip(2), Send{}), encoded(t, ip(3), Send{})[:4])
	each := open(t, 0)
	seq := each.Each(append(encoded(t, ip(1), Send{}), rest...))
	framesAre(t, first(seq, 1), ip(1))
	if each.Counts() != (Counts{Frames: 1}) {
		t.Error("it takes what stands behind:", each.Counts())
	}
	framesAre(t, each.Feed(encoded(t, ip(7), Send{})[1:]), ip(7))
	framesAre(t, first(seq, 1), ip(2))
	if each.Counts() != (Counts{Frames: 3, Aborts: 1, Runts: 2}) {
		t.Error(each.Counts())
	}
	framesAre(t, slices.Collect(seq))
	framesAre(t, each.Feed(encoded(t, ip(3), Send{})[4:]), ip(3))
	framesAre(t, slices.Collect(seq))
	if each.Counts() != (Counts{Frames: 4, Aborts: 1, Runts: 2}) {
		t.Error("bytes are taken twice:", each.Counts())
	}
}

// first answers the first n frames, and leaves the iterator then.
func first(seq iter.Seq[api.Frame], n int) []api.Frame {
	var out []api.Frame
	for f := range seq {
		out = append(out, f)
		if len(out) == n {
			break
		}
	}
	return out
}

func TestEachLeftAndAskedAgainTellsAll(t *testing.T) {
	var d draws = 4
	for range 300 {
		b := noise(&d, 300)
		one, two := open(t, 0), open(t, 0)
		want := one.Feed(b)
		var got []api.Frame
		seq := two.Each(b)
		for range len(want) + 1 {
			before := two.Counts().Frames
			piece := first(seq, 1+d.next(3))
			if two.Counts().Frames != before+int64(len(piece)) {
				t.Fatal("a frame is counted that was not told")
			}
			got = append(got, piece...)
		}
		framesAre(t, got, want...)
		if one.Counts() != two.Counts() {
			t.Fatal(one.Counts(), two.Counts())
		}
	}
}

func TestALineMayBeAskedWhileItTells(t *testing.T) {
	l := open(t, 0)
	stream := slices.Concat(encoded(t, ip(1), Send{}), encoded(t, ip(2), Send{}), encoded(t, ip(3), Send{}))
	var got []api.Frame
	seq := l.Each(stream)
	for f := range seq {
		got = append(got, f)
		if f.Info[0] == 1 {
			got = append(got, l.Feed(encoded(t, ip(8), Send{}))...)
			got = append(got, first(seq, 1)...)
		}
		l.Reset()
	}
	framesAre(t, got, ip(1), ip(8), ip(2), ip(3))
}

// P3.4, P3.8

func TestFeedTellsWhatEncodeWrote(t *testing.T) {
	var d draws = 5
	for range 1500 {
		mine, other := d.accm(), Send{Accm: d.accm(), Pfc: d.next(2) == 0, Acfc: d.next(2) == 0}
		l := open(t, mine&other.Accm)
		var stream []byte
		var want []api.Frame
		for range d.next(5) {
			f := api.Frame{Proto: d.proto(), Info: d.bytes(1 + d.next(60))}
			if body, _ := Body(f, other); other.Acfc && f.Proto != api.PLcp && body[0] == 0xff && body[1] == 3 {
				continue
			}
			want = append(want, f)
			stream = append(stream, encoded(t, f, other)...)
		}
		framesAre(t, inPieces(l, stream, &d), want...)
		if l.Counts() != (Counts{Frames: int64(len(want))}) {
			t.Fatal(l.Counts())
		}
	}
}

func TestWhatIsPassedOverAsAnAddress(t *testing.T) {
	l := open(t, 0)
	s := Send{Pfc: true, Acfc: true}
	framesAre(t, l.Feed(encoded(t, api.Frame{Proto: 0xff, Info: []byte{3, 0x21, 7}}, s)), ip(7))
	framesAre(t, l.Feed(encoded(t, api.Frame{Proto: 0xff, Info: []byte{4, 0x21, 7}}, s)), api.Frame{Proto: 0xff, Info: []byte{4, 0x21, 7}})
	framesAre(t, l.Feed(encoded(t, ip(), s)))
	if l.Counts() != (Counts{Frames: 2, Runts: 1}) {
		t.Error(l.Counts())
	}
}

func TestTheLongestInformation(t *testing.T) {
	var d draws = 6
	f := ip(d.bytes(api.MaxMru)...)
	l := open(t, math.MaxUint32)
	framesAre(t, l.Feed(encoded(t, f, Send{Accm: math.MaxUint32})), f)
	framesAre(t, inPieces(l, encoded(t, f, Send{Accm: math.MaxUint32}), &d), f)
}

// inPieces feeds b in pieces, and answers all frames.
func inPieces(l *Line, b []byte, d *draws) []api.Frame {
	var out []api.Frame
	for len(b) > 0 {
		n := min(len(b), d.next(12))
		out = append(out, l.Feed(b[:n])...)
		b = b[n:]
	}
	return out
}

// noise draws bytes of a line: frames, whole and broken, and bytes that mean something.
func noise(d *draws, n int) []byte {
	var out []byte
	for len(out) < n {
		f := api.Frame{Proto: d.proto(), Info: d.bytes(d.next(12))}
		b, _ := Encode(f, Send{Accm: d.accm(), Pfc: d.next(2) == 0, Acfc: d.next(2) == 0})
		switch d.next(6) {
		case 0:
			b[d.next(len(b))] = byte(d.next(256))
		case 1:
			b = b[:d.next(len(b))]
		case 2:
			b = b[d.next(len(b)):]
		case 3:
			b = nil
			for range d.next(12) {
				b = append(b, []byte{0x7d, 0x7e, 0x11, 0x13, 0x41, 0x5e, 0x5d}[d.next(7)])
			}
		case 4:
			b = between(fcs.Put16(d.bytes(d.next(6)))...)
		}
		out = append(out, b...)
	}
	return out
}

// plainLine tells of a whole line what the document's words say, piece by piece between its flags.
func plainLine(b []byte, mru int, accm int64, pfc, acfc bool) ([]api.Frame, Counts) {
	var kept []byte
	for _, c := range b {
		if c >= 32 || accm>>c&1 == 0 {
			kept = append(kept, c)
		}
	}
	pieces := bytes.Split(kept, []byte{0x7e})
	var out []api.Frame
	var n Counts
	for _, p := range pieces[:len(pieces)-1] {
		var body []byte
		for i := 0; i < len(p); i++ {
			if p[i] != 0x7d {
				body = append(body, p[i])
			} else if i+1 < len(p) {
				i++
				body = append(body, p[i]^0x20)
			}
		}
		cut, sum := fcs.Cut16(body)
		f, form := Parse(cut, pfc, acfc)
		switch {
		case len(p) == 0:
		case p[len(p)-1] == 0x7d:
			n.Aborts++
		case len(body) < 4:
			n.Runts++
		case len(body) > mru+6:
			n.Giants++
		case sum != api.OK:
			n.Sums++
		case form != api.OK:
			n.Wrong++
		default:
			n.Frames++
			out = append(out, f)
		}
	}
	return out, n
}

func TestALineIsAsTheWordsSay(t *testing.T) {
	var d draws = 7
	var all Counts
	for range 3000 {
		accm, pfc, acfc := d.accm(), d.next(3) > 0, d.next(3) > 0
		b := noise(&d, d.next(400))
		if d.next(8) == 0 {
			b = slices.Concat(b, bytes.Repeat([]byte{0x41}, 55+d.next(20)), b)
		}
		want, counts := plainLine(b, 64, accm, pfc, acfc)
		l := New(64, accm, pfc, acfc)
		framesAre(t, inPieces(l, b, &d), want...)
		if l.Counts() != counts {
			t.Fatalf("%x: %v instead of %v", b, l.Counts(), counts)
		}
		all = sumOf(all, counts)
	}
	if min(all.Frames, all.Runts, all.Giants, all.Sums, all.Aborts, all.Wrong) < 20 {
		t.Error("the noise has too few of something:", all)
	}
}

func sumOf(a, b Counts) Counts {
	return Counts{a.Frames + b.Frames, a.Runts + b.Runts, a.Giants + b.Giants, a.Sums + b.Sums, a.Aborts + b.Aborts, a.Wrong + b.Wrong}
}

func TestCountsOnlyGrow(t *testing.T) {
	var d draws = 8
	l := open(t, 0)
	for range 2000 {
		before := l.Counts()
		switch d.next(10) {
		case 0:
			l.Reset()
		default:
			l.Feed(noise(&d, d.next(40)))
		}
		now := l.Counts()
		if now.Frames < before.Frames || now.Runts < before.Runts || now.Giants < before.Giants || now.Sums < before.Sums || now.Aborts < before.Aborts || now.Wrong < before.Wrong {
			t.Fatal(before, now)
		}
	}
}

// P3.6

func TestATurnedBitIsTold(t *testing.T) {
	var d draws = 9
	for _, f := range []api.Frame{{Proto: api.PLcp, Info: []byte{1, 1, 0, 4}}, ip(0x45), ip(d.bytes(60)...)} {
		body, _ := Body(f, Send{Pfc: true, Acfc: true})
		for at := range 8 * len(body) {
			turned := slices.Clone(body)
			turned[at/8] ^= 1 << (at % 8)
			l := open(t, 0)
			framesAre(t, l.Feed(escapedWithAll(t, turned)))
			if l.Counts() != (Counts{Sums: 1}) {
				t.Error("the bit", at, l.Counts())
			}
		}
	}
}

// P3.7

func TestWhatIsDroppedChangesNothing(t *testing.T) {
	var d draws = 10
	for range 1000 {
		f := api.Frame{Proto: d.proto(), Info: d.bytes(2 + d.next(30))}
		accm := d.accm() | 1<<17 | 1<<31
		b := encoded(t, f, Send{Accm: accm})
		var with []byte
		for _, c := range b {
			for range d.next(3) {
				if k := byte(d.next(32)); accm>>k&1 == 1 {
					with = append(with, k)
				}
			}
			with = append(with, c)
		}
		l := open(t, accm)
		framesAre(t, l.Feed(with), f)
		if l.Counts() != (Counts{Frames: 1}) {
			t.Fatal(l.Counts())
		}
	}
	l := open(t, 1<<17)
	l.Feed([]byte{0x7e, 0x11, 0x7e, 0x11, 0x11, 0x7e})
	if l.Counts() != (Counts{}) {
		t.Error("dropped bytes alone are something:", l.Counts())
	}
	l.Feed([]byte{0x41, 0x7d, 0x11, 0x7e})
	if l.Counts() != (Counts{Aborts: 1}) {
		t.Error("a dropped byte hides an abort:", l.Counts())
	}
}

func TestAByteThatIsNotNamedIsNotDropped(t *testing.T) {
	l := open(t, 1<<17)
	with := encoded(t, ip(1, 2), Send{})
	with = slices.Insert(with, 6, 0x13)
	framesAre(t, l.Feed(with))
	if l.Counts() != (Counts{Sums: 1}) {
		t.Error(l.Counts())
	}
	framesAre(t, l.Feed(encoded(t, ip(0x11, 0x13), Send{Accm: 1 << 17})), ip(0x11, 0x13))
	framesAre(t, l.Feed(encoded(t, ip(0x31, 0x33), Send{Accm: 1 << 17})), ip(0x31, 0x33))
}

// P1, P8

func TestALineHoldsNoMoreThanALongestFrame(t *testing.T) {
	l := New(64, 0, true, true)
	for range 1000 {
		l.Feed(make([]byte, 1000))
		if len(l.held) > 71 || cap(l.held) > 200 {
			t.Fatal(len(l.held), cap(l.held))
		}
	}
}

func TestALineThatNewDidNotMakeDoesNotPanic(t *testing.T) {
	var l Line
	l.Feed([]byte{0x7e, 0x7d, 1, 2, 3, 4, 0x7e})
	for range l.Each([]byte{1, 0x7e}) {
		t.Error("it tells a frame")
	}
	l.Reset()
	l.Counts()
}
