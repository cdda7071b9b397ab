package meter

import (
	"math"
	"testing"

	"tether/api"
)

// tells asks what a meter tells of a way.
func tells(t *testing.T, m *Meter, out bool, want Counts, rate, gain, loss, smooth float64) {
	t.Helper()
	if c := m.Counts(out); c != want {
		t.Error(out, c, "instead of", want)
	}
	if v := m.Rate(out); !alike(v, rate) {
		t.Error(out, "rate", v, "instead of", rate)
	}
	if v := m.Gain(out); !alike(v, gain) {
		t.Error(out, "gain", v, "instead of", gain)
	}
	if v := m.Loss(out); !alike(v, loss) {
		t.Error(out, "loss", v, "instead of", loss)
	}
	if v := m.Smooth(out); !alike(v, smooth) {
		t.Error(out, "smooth", v, "instead of", smooth)
	}
}

// adds counts a packet that can be counted.
func adds(t *testing.T, m *Meter, out bool, bytes, wire int64) {
	t.Helper()
	if e := m.Add(out, bytes, wire); e != api.OK {
		t.Fatal(bytes, wire, e)
	}
}

// moves moves the clock to times that it can be moved to.
func moves(t *testing.T, m *Meter, times ...int64) {
	t.Helper()
	for _, now := range times {
		if e := m.Clock(now); e != api.OK {
			t.Fatal(now, e)
		}
	}
}

// P25.3

func TestAsInTheExamples(t *testing.T) {
	m := New()
	adds(t, m, true, 100, 60)
	moves(t, m, 1000)
	tells(t, m, true, Counts{Packets: 1, Bytes: 100, Wire: 60}, 100, 0.4, 0, 100)
	tells(t, m, false, Counts{}, 0, theNan(), theNan(), 0)
}

func TestNew(t *testing.T) {
	for _, out := range []bool{false, true} {
		tells(t, New(), out, Counts{}, theNan(), theNan(), theNan(), theNan())
	}
}

func TestOfNil(t *testing.T) {
	var m *Meter
	for _, out := range []bool{false, true} {
		for _, n := range []int64{math.MinInt64, -1, 0, 1, math.MaxInt64} {
			for _, e := range []api.Errno{m.Add(out, n, n), m.Add(out, 0, n), m.Lose(out), m.Clock(n)} {
				if e != api.ErrNil {
					t.Error(n, e)
				}
			}
		}
		tells(t, m, out, Counts{}, theNan(), theNan(), theNan(), theNan())
	}
}

func TestAdd(t *testing.T) {
	for _, out := range []bool{false, true} {
		m := New()
		for _, n := range []int64{math.MinInt64, -1, 1<<40 + 1, 1 << 60, math.MaxInt64} {
			for _, good := range []int64{0, 5, 1 << 40} {
				if m.Add(out, n, good) != api.ErrArg || m.Add(out, good, n) != api.ErrArg || m.Add(out, n, n) != api.ErrArg {
					t.Error(n)
				}
			}
		}
		tells(t, m, out, Counts{}, theNan(), theNan(), theNan(), theNan())
		adds(t, m, out, 0, 0)
		adds(t, m, out, 1<<40, 0)
		adds(t, m, out, 0, 1<<40)
		adds(t, m, out, 7, 9)
		tells(t, m, out, Counts{Packets: 4, Bytes: 1<<40 + 7, Wire: 1<<40 + 9}, math.Inf(1), -2/float64(1<<40+7), 0, theNan())
		tells(t, m, !out, Counts{}, theNan(), theNan(), theNan(), theNan())
	}
}

func TestAddIsFull(t *testing.T) {
	m := New()
	for range 1 << 20 {
		m.Add(true, 1<<40, 0)
	}
	want := Counts{Packets: 1 << 20, Bytes: 1 << 60}
	for _, n := range []int64{1, 1 << 40} {
		if e := m.Add(true, n, 0); e != api.ErrFull {
			t.Error(n, e)
		}
	}
	for _, n := range []int64{-1, 1<<40 + 1} { // that comes first
		if m.Add(true, n, 0) != api.ErrArg || m.Add(true, 1, n) != api.ErrArg {
			t.Error(n)
		}
	}
	tells(t, m, true, want, math.Inf(1), 1, 0, theNan())
	adds(t, m, true, 0, 1<<40) // the other counts have room
	adds(t, m, false, 1<<40, 1)
	if e := m.Lose(true); e != api.OK {
		t.Error(e)
	}
	moves(t, m, 3)
	want.Packets, want.Wire, want.Lost = want.Packets+1, 1<<40, 1
	tells(t, m, true, want, 0x1p60*1000/3, 1-0x1p-20, 1/float64(1<<20+2), 0x1p60*1000/3)
	tells(t, m, false, Counts{Packets: 1, Bytes: 1 << 40, Wire: 1}, 0x1p40*1000/3, 1-0x1p-40, 0, 0x1p40*1000/3)
}

func TestEachCountHasItsGreatest(t *testing.T) {
	const most = 1 << 60
	for i, c := range []struct {
		ahead       Counts
		bytes, wire int64
		e           api.Errno
	}{
		{Counts{Packets: most - 1}, 0, 0, api.OK}, {Counts{Packets: most}, 0, 0, api.ErrFull},
		{Counts{Bytes: most - 5}, 5, 0, api.OK}, {Counts{Bytes: most - 5}, 6, 0, api.ErrFull}, {Counts{Bytes: most}, 0, 9, api.OK},
		{Counts{Wire: most - 5}, 0, 5, api.OK}, {Counts{Wire: most - 5}, 0, 6, api.ErrFull}, {Counts{Wire: most}, 9, 0, api.OK},
		{Counts{Packets: most - 1, Bytes: most - 1, Wire: most - 1, Lost: most}, 1, 1, api.OK},
		{Counts{Packets: most, Bytes: most, Wire: most, Lost: most}, 1 << 40, 1 << 40, api.ErrFull},
		{Counts{Packets: most, Bytes: most, Wire: most}, -1, 0, api.ErrArg},
	} {
		m := New()
		m.counts[1] = c.ahead
		want := c.ahead
		if c.e == api.OK {
			want.Packets, want.Bytes, want.Wire = want.Packets+1, want.Bytes+c.bytes, want.Wire+c.wire
		}
		if e := m.Add(true, c.bytes, c.wire); e != c.e || m.Counts(true) != want {
			t.Error(i, e, m.Counts(true))
		}
	}
}

func TestLose(t *testing.T) {
	for _, out := range []bool{false, true} {
		m := New()
		for range 3 {
			if e := m.Lose(out); e != api.OK {
				t.Error(e)
			}
		}
		tells(t, m, out, Counts{Lost: 3}, theNan(), theNan(), 1, theNan())
		adds(t, m, out, 10, 5)
		tells(t, m, out, Counts{Packets: 1, Bytes: 10, Wire: 5, Lost: 3}, math.Inf(1), 0.5, 0.75, theNan())
		tells(t, m, !out, Counts{}, theNan(), theNan(), theNan(), theNan())
		m.counts[way(out)].Lost = 1<<60 - 1
		if e := m.Lose(out); e != api.OK {
			t.Error(e)
		}
		if e := m.Lose(out); e != api.ErrFull || m.Counts(out).Lost != 1<<60 {
			t.Error(e, m.Counts(out))
		}
		if e := m.Lose(!out); e != api.OK {
			t.Error(e)
		}
	}
}

func TestClock(t *testing.T) {
	m := New()
	for _, now := range []int64{math.MinInt64, -1, api.MaxTime + 1, math.MaxInt64} {
		if e := m.Clock(now); e != api.ErrArg {
			t.Error(now, e)
		}
	}
	adds(t, m, true, 100, 0)
	moves(t, m, 0) // that is no move
	tells(t, m, true, Counts{Packets: 1, Bytes: 100}, math.Inf(1), 1, 0, theNan())
	moves(t, m, 50)
	for _, now := range []int64{math.MinInt64, -1, 0, 49, api.MaxTime + 1, math.MaxInt64} {
		if e := m.Clock(now); e != api.ErrArg {
			t.Error(now, e)
		}
	}
	tells(t, m, true, Counts{Packets: 1, Bytes: 100}, 2000, 1, 0, 2000)
	moves(t, m, 50, 50)
	tells(t, m, true, Counts{Packets: 1, Bytes: 100}, 2000, 1, 0, 2000)
	moves(t, m, api.MaxTime, api.MaxTime)
	tells(t, m, true, Counts{Packets: 1, Bytes: 100}, 100000/float64(api.MaxTime), 1, 0, 1750)
	if e := m.Clock(api.MaxTime - 1); e != api.ErrArg {
		t.Error(e)
	}
}

// P25.3, P25.4

func TestSmooth(t *testing.T) {
	m := New()
	now := int64(0)
	for i, c := range []struct {
		bytes, span int64
		want        float64
	}{
		{100, 1000, 100}, {0, 1000, 87.5}, {1, 3, 118.22916666666666}, {1000000007, 7, 17857143085.59338}, {0, 1 << 39, 15625000199.894207},
	} {
		adds(t, m, true, c.bytes, 0)
		adds(t, m, false, 0, c.bytes) // bytes on the wire play no part
		m.Lose(true)
		now += c.span
		moves(t, m, now, now)
		if v, o := m.Smooth(true), m.Smooth(false); !alike(v, c.want) || !alike(o, 0) {
			t.Error(i, v, o)
		}
	}
}

func TestSmoothIsOfWhatCameSinceTheClockWasMoved(t *testing.T) {
	m := New()
	adds(t, m, false, 10, 1)
	moves(t, m, 0)
	adds(t, m, false, 20, 1)
	adds(t, m, true, 500, 1)
	m.Clock(-1)
	adds(t, m, false, 30, 1)
	moves(t, m, 10)
	if a, b := m.Smooth(false), m.Smooth(true); a != 6000 || b != 50000 {
		t.Error(a, b)
	}
	adds(t, m, false, 5, 1)
	m.Clock(9)
	moves(t, m, 10)
	adds(t, m, false, 4, 1)
	moves(t, m, 13)
	if a, b := m.Smooth(false), m.Smooth(true); a != 5625 || b != 43750 {
		t.Error(a, b)
	}
	moves(t, m, 14)
	if a, b := m.Smooth(false), m.Smooth(true); a != 4921.875 || b != 38281.25 {
		t.Error(a, b)
	}
}

// P25.4

func TestRatesAreReckonedStepByStep(t *testing.T) {
	for _, c := range []struct {
		bytes, clock int64
		want         float64
	}{
		{0, 1, 0}, {1, 1, 1000}, {1, 21, 47.61904761904762}, {1, 29, 34.48275862068966}, {1, 35, 28.571428571428573}, {1, 42, 23.80952380952381}, {1, 57, 17.54385964912281},
		{1 << 40, 1, 0x1p40 * 1000}, {1, api.MaxTime, 9.094947017729282e-10},
	} {
		m := New()
		adds(t, m, true, c.bytes, 3)
		moves(t, m, c.clock)
		if v, s := m.Rate(true), m.Smooth(true); !alike(v, c.want) || !alike(s, c.want) {
			t.Error(c.bytes, c.clock, v, s)
		}
	}
}

func TestGreatCountsAreRoundedWhereTheDocumentSays(t *testing.T) {
	m := New()
	m.counts[1] = Counts{Packets: 1, Bytes: 1<<53 + 1, Wire: 1}
	m.counts[0] = Counts{Packets: 1, Bytes: 1<<53 + 1, Wire: 1 << 53}
	moves(t, m, 3)
	if v := m.Rate(true); !alike(v, 3.0023997515803305e+18) { // the bytes first, then their product
		t.Error(v)
	}
	if v := m.Gain(true); !alike(v, 1) { // the difference first
		t.Error(v)
	}
	if v := m.Gain(false); !alike(v, 0x1p-53) {
		t.Error(v)
	}
}

func TestGainAndLoss(t *testing.T) {
	for i, c := range []struct {
		bytes, wire int64
		lost        int
		gain, loss  float64
	}{
		{0, 0, 0, theNan(), 0}, {0, 1, 1, math.Inf(-1), 0.5}, {1, 0, 3, 1, 0.75}, {5, 5, 2, 0, 0.6666666666666666}, {4, 10, 4, -1.5, 0.8}, {3, 1, 0, 0.6666666666666666, 0}, {1, 1 << 40, 0, 1 - 0x1p40, 0},
	} {
		m := New()
		adds(t, m, false, c.bytes, c.wire)
		for range c.lost {
			m.Lose(false)
		}
		if g, l := m.Gain(false), m.Loss(false); !alike(g, c.gain) || !alike(l, c.loss) {
			t.Error(i, g, l)
		}
		tells(t, m, true, Counts{}, theNan(), theNan(), theNan(), theNan())
	}
}

// modelled is a way as a test keeps it.
type modelled struct {
	Counts
	lately float64
	smooth float64
}

// move is what a move of the clock does to it.
func (w *modelled) move(span int64) {
	v := w.lately * 1000 / float64(span)
	if w.smooth == w.smooth {
		v = w.smooth + (v-w.smooth)/8
	}
	w.smooth, w.lately = v, 0
}

// count counts something drawn, in the meter and here.
func (w *modelled) count(d *draws, m *Meter, out bool) {
	if d.next(3) == 0 {
		m.Lose(out)
		w.Lost++
		return
	}
	bytes, wire := int64(d.next(3)*d.next(2000)-3), int64(d.next(3000)-3)
	if m.Add(out, bytes, wire) == api.OK {
		w.Packets, w.Bytes, w.Wire, w.lately = w.Packets+1, w.Bytes+bytes, w.Wire+wire, w.lately+float64(bytes)
	}
}

// over is a by b, where both are whole numbers.
func over(a, b int64) float64 {
	switch {
	case b == 0 && a == 0:
		return theNan()
	case b == 0 && a < 0:
		return math.Inf(-1)
	case b == 0:
		return math.Inf(1)
	}
	return float64(a) / float64(b)
}

// P25.3, P25.4, P25.7, P25.8

func TestAMeterIsWhatTheModelSays(t *testing.T) {
	var d draws = 7
	for range 500 {
		m := New()
		model := [2]modelled{{smooth: theNan()}, {smooth: theNan()}}
		clock := int64(0)
		for range 60 {
			if now := clock + int64(d.next(40)-5); d.next(4) == 0 {
				if m.Clock(now) == api.OK && now > clock {
					model[0].move(now - clock)
					model[1].move(now - clock)
					clock = now
				}
			} else {
				i := d.next(2)
				other := shown(m, i == 0)
				model[i].count(&d, m, i == 1)
				if now := shown(m, i == 0); !sameBits(now, other) {
					t.Fatal("the other way is changed", other, now)
				}
			}
			for i, w := range model {
				out := i == 1
				tells(t, m, out, w.Counts, over(w.Bytes*1000, clock), over(w.Bytes-w.Wire, w.Bytes), over(w.Lost, w.Lost+w.Packets), w.smooth)
				if l := m.Loss(out); l < 0 || l > 1 || math.IsNaN(l) != (w.Lost+w.Packets == 0) {
					t.Fatal(l)
				}
				if g := m.Gain(out); g > 1 || math.IsInf(g, -1) != (w.Bytes == 0 && w.Wire > 0) || math.IsNaN(g) != (w.Bytes == 0 && w.Wire == 0) {
					t.Fatal(g)
				}
			}
			if t.Failed() {
				t.FailNow()
			}
		}
	}
}

// shown is what a meter tells of a way, in numbers.
func shown(m *Meter, out bool) [5]float64 {
	c := m.Counts(out)
	return [5]float64{m.Rate(out), m.Gain(out), m.Loss(out), m.Smooth(out), float64(c.Packets + c.Bytes + c.Wire + c.Lost)}
}

func sameBits(a, b [5]float64) bool {
	for i := range a {
		if !alike(a[i], b[i]) {
			return false
		}
	}
	return true
}

// P25.8

func TestCountsNeverFall(t *testing.T) {
	var d draws = 8
	odd := []int64{math.MinInt64, -1, 0, 1, 1500, 1 << 40, 1<<40 + 1, math.MaxInt64}
	m := New()
	for range 50000 {
		before := m.counts
		switch out := d.next(2) == 0; d.next(3) {
		case 0:
			m.Add(out, odd[d.next(len(odd))], odd[d.next(len(odd))])
		case 1:
			m.Lose(out)
		case 2:
			m.Clock(odd[d.next(len(odd))])
		}
		for i, c := range m.counts {
			b := before[i]
			if c.Packets < b.Packets || c.Bytes < b.Bytes || c.Wire < b.Wire || c.Lost < b.Lost {
				t.Fatal(b, c)
			}
		}
	}
}

func TestMetersAreApart(t *testing.T) {
	a, b := New(), New()
	adds(t, a, true, 5, 5)
	moves(t, a, 5)
	tells(t, b, true, Counts{}, theNan(), theNan(), theNan(), theNan())
	var zero Meter // that New did not make
	zero.Add(true, 1, 1)
	zero.Lose(false)
	zero.Clock(5)
	if zero.Rate(true) != 200 || zero.Loss(false) != 1 {
		t.Error(zero)
	}
}
