package timer

import (
	"cmp"
	"math"
	"slices"
	"testing"

	"tether/api"
)

// draws is a chain of numbers that are the same at each run.
type draws uint64

func (d *draws) next(below int) int {
	*d = *d*6364136223846793005 + 1442695040888963407
	return int(uint64(*d)>>33) % below
}

// all is what All goes through.
func all(q *Queue) []timer {
	var l []timer
	for id, at := range q.All() {
		l = append(l, timer{id, at})
	}
	return l
}

// queued answers a queue where those are set, one behind the other.
func queued(t *testing.T, l ...timer) *Queue {
	t.Helper()
	q := New()
	for _, one := range l {
		if e := q.Set(one.id, one.at); e != api.OK {
			t.Fatal(one, e)
		}
	}
	return q
}

func holds(t *testing.T, q *Queue, want ...timer) {
	t.Helper()
	next, e := q.Next()
	if l := all(q); !slices.Equal(l, want) || q.Len() != len(want) {
		t.Error(l, q.Len(), "instead of", want)
	}
	if len(want) == 0 && (next != 0 || e != api.ErrNone) || len(want) > 0 && (next != want[0].at || e != api.OK) {
		t.Error(next, e)
	}
}

// P8.1

func TestAsInTheExamples(t *testing.T) {
	q := queued(t, timer{1, 50}, timer{2, 40}, timer{3, 50})
	if l := q.Due(45); !slices.Equal(l, []int{2}) {
		t.Error(l)
	}
	q.Set(1, 50)
	if l := q.Due(50); !slices.Equal(l, []int{3, 1}) {
		t.Error(l)
	}
	if n, e := q.Left(9, 0); n != 0 || e != api.ErrNone {
		t.Error(n, e)
	}
	q.After(4, api.MaxTime-5, 100)
	holds(t, q, timer{4, api.MaxTime})
}

func TestSet(t *testing.T) {
	q := New()
	holds(t, q)
	for _, one := range []timer{{-1, 0}, {65536, 0}, {math.MinInt, 0}, {math.MaxInt, 0}, {0, -1}, {0, api.MaxTime + 1}, {5, math.MinInt64}, {5, math.MaxInt64}} {
		if e := q.Set(one.id, one.at); e != api.ErrArg {
			t.Error(one, e)
		}
	}
	holds(t, q)
	q = queued(t, timer{65535, api.MaxTime}, timer{0, 0}, timer{7, 3}, timer{8, 3}, timer{6, 3}, timer{9, 2})
	holds(t, q, timer{0, 0}, timer{9, 2}, timer{7, 3}, timer{8, 3}, timer{6, 3}, timer{65535, api.MaxTime})
	q.Set(8, 3) // the last one of its deadline now
	q.Set(0, 5)
	q.Set(65535, 1)
	holds(t, q, timer{65535, 1}, timer{9, 2}, timer{7, 3}, timer{6, 3}, timer{8, 3}, timer{0, 5})
	if e := q.Set(8, -1); e != api.ErrArg {
		t.Error(e)
	}
	holds(t, q, timer{65535, 1}, timer{9, 2}, timer{7, 3}, timer{6, 3}, timer{8, 3}, timer{0, 5})
}

func TestAfter(t *testing.T) {
	q := New()
	for i, c := range []struct {
		id        int
		now, span int64
	}{
		{0, -1, 0}, {0, api.MaxTime + 1, 0}, {0, 0, -1}, {0, 5, -1}, {0, 0, api.MaxSpan + 1}, {-1, 0, 0}, {65536, 0, 0}, {0, math.MaxInt64, math.MaxInt64}, {0, math.MinInt64, math.MinInt64},
	} {
		if e := q.After(c.id, c.now, c.span); e != api.ErrArg {
			t.Error(i, e)
		}
	}
	holds(t, q)
	q.After(1, 0, 0)
	q.After(2, 5, api.MaxSpan)
	q.After(3, api.MaxTime, api.MaxSpan)
	q.After(4, api.MaxTime-9, 8)
	q.After(5, 10, 20)
	q.After(1, 30, 0)
	holds(t, q, timer{5, 30}, timer{1, 30}, timer{2, 5 + api.MaxSpan}, timer{4, api.MaxTime - 1}, timer{3, api.MaxTime})
}

func TestCancelAndClear(t *testing.T) {
	q := queued(t, timer{1, 5}, timer{2, 5}, timer{3, 5})
	for _, id := range []int{4, -1, 65536, 0} {
		if e := q.Cancel(id); e != api.ErrNone {
			t.Error(id, e)
		}
	}
	if e := q.Cancel(2); e != api.OK {
		t.Error(e)
	}
	if e := q.Cancel(2); e != api.ErrNone {
		t.Error(e)
	}
	holds(t, q, timer{1, 5}, timer{3, 5})
	q.Clear()
	holds(t, q)
	q.Clear()
	q.Set(3, 1)
	holds(t, q, timer{3, 1})
}

// P8.2

func TestDueAndPop(t *testing.T) {
	q := queued(t, timer{1, 5}, timer{2, 6}, timer{3, 6}, timer{4, 0})
	for _, now := range []int64{-1, math.MinInt64} {
		if l := q.Due(now); len(l) != 0 {
			t.Error(l)
		}
		if id, e := q.Pop(now); id != 0 || e != api.ErrNone {
			t.Error(id, e)
		}
	}
	if id, e := q.Pop(5); id != 4 || e != api.OK {
		t.Error(id, e)
	}
	if id, e := q.Pop(5); id != 1 || e != api.OK {
		t.Error(id, e)
	}
	if id, e := q.Pop(5); id != 0 || e != api.ErrNone {
		t.Error(id, e)
	}
	l := q.Due(math.MaxInt64)
	if !slices.Equal(l, []int{2, 3}) {
		t.Error(l)
	}
	holds(t, q)
	if l := q.Due(math.MaxInt64); len(l) != 0 {
		t.Error(l)
	}
	if id, e := q.Pop(math.MaxInt64); id != 0 || e != api.ErrNone {
		t.Error(id, e)
	}
}

func TestLeft(t *testing.T) {
	q := queued(t, timer{1, 0}, timer{2, 50}, timer{3, api.MaxTime})
	for i, c := range []struct {
		id        int
		now, want int64
	}{
		{1, 0, 0}, {1, 1, 0}, {1, -1, 1}, {1, -api.MaxTime, api.MaxTime}, {1, -api.MaxTime - 1, api.MaxTime}, {1, math.MinInt64, api.MaxTime}, {1, math.MaxInt64, 0},
		{2, 0, 50}, {2, 49, 1}, {2, 50, 0}, {2, 51, 0}, {2, -8, 58}, {2, 50 - api.MaxTime, api.MaxTime}, {2, 49 - api.MaxTime, api.MaxTime}, {2, 51 - api.MaxTime, api.MaxTime - 1}, {2, math.MinInt64, api.MaxTime}, {2, math.MaxInt64, 0},
		{3, 0, api.MaxTime}, {3, 1, api.MaxTime - 1}, {3, -1, api.MaxTime}, {3, math.MinInt64, api.MaxTime}, {3, math.MaxInt64, 0},
	} {
		if n, e := q.Left(c.id, c.now); n != c.want || e != api.OK {
			t.Error(i, n, e)
		}
	}
	for _, id := range []int{0, 4, -1, 65536} {
		if n, e := q.Left(id, 0); n != 0 || e != api.ErrNone {
			t.Error(id, n, e)
		}
	}
	holds(t, q, timer{1, 0}, timer{2, 50}, timer{3, api.MaxTime})
}

func TestAllIsOfItsCall(t *testing.T) {
	q := queued(t, timer{1, 5}, timer{2, 6}, timer{3, 7})
	told := q.All()
	var l []int
	for id := range told {
		l = append(l, id)
		q.Cancel(id)
		q.Set(id+10, 1)
	}
	if !slices.Equal(l, []int{1, 2, 3}) {
		t.Error(l)
	}
	for id, at := range told { // again, and no further than the first one
		if id != 1 || at != 5 {
			t.Error(id, at)
		}
		break
	}
	holds(t, q, timer{11, 1}, timer{12, 1}, timer{13, 1})
}

func TestCopy(t *testing.T) {
	q := queued(t, timer{1, 5}, timer{2, 6}, timer{3, 6})
	c := q.Copy()
	holds(t, c, timer{1, 5}, timer{2, 6}, timer{3, 6})
	q.Set(2, 6)
	q.Pop(9)
	c.Set(4, 6)
	c.Set(1, 7)
	holds(t, q, timer{3, 6}, timer{2, 6})
	holds(t, c, timer{2, 6}, timer{3, 6}, timer{4, 6}, timer{1, 7})
	holds(t, New().Copy())
}

func TestOfNil(t *testing.T) {
	var q *Queue
	for _, e := range []api.Errno{q.Set(1, 1), q.Set(-1, -1), q.After(1, 1, 1), q.After(-1, -1, -1), q.Cancel(1)} {
		if e != api.ErrNil {
			t.Error(e)
		}
	}
	q.Clear()
	id, pe := q.Pop(9)
	next, ne := q.Next()
	left, le := q.Left(1, 0)
	if id != 0 || next != 0 || left != 0 || pe != api.ErrNil || ne != api.ErrNil || le != api.ErrNil {
		t.Error(id, pe, next, ne, left, le)
	}
	if len(q.Due(9)) != 0 || q.Len() != 0 || len(all(q)) != 0 || q.Copy() != nil {
		t.Error("of nil")
	}
	var zero Queue // as New makes one
	holds(t, &zero)
	zero.Set(1, 1)
	holds(t, &zero, timer{1, 1})
}

// P8.6

func TestThereAreNeverMoreThanSixtyFour(t *testing.T) {
	q := New()
	var want []timer
	for i := range api.MaxTimers {
		q.Set(i, int64(i))
		want = append(want, timer{i, int64(i)})
	}
	if q.Set(64, 0) != api.ErrFull || q.After(64, 0, 0) != api.ErrFull || q.Set(65536, 0) != api.ErrArg || q.Set(64, -1) != api.ErrArg || q.After(64, -1, 0) != api.ErrArg {
		t.Error("full")
	}
	holds(t, q, want...)
	if e := q.Set(0, 99); e != api.OK { // it stands there already
		t.Error(e)
	}
	holds(t, q, append(want[1:], timer{0, 99})...)
	q.Pop(1)
	if e := q.Set(64, 0); e != api.OK {
		t.Error(e)
	}
	if e := q.Set(65, 0); e != api.ErrFull || q.Len() != 64 {
		t.Error(e)
	}
}

// modelled is a timer as a test keeps it: its turn is when it was set.
type modelled struct {
	timer
	turn int
}

func inOrder(a, b modelled) int {
	return cmp.Or(cmp.Compare(a.at, b.at), cmp.Compare(a.turn, b.turn))
}

// P8.4, P8.5, P8.6

func TestAQueueIsWhatTheModelSays(t *testing.T) {
	var d draws = 1
	q := New()
	var m []modelled
	now, most := int64(0), 0
	for turn := range 100000 {
		id := d.next(90)
		switch d.next(7) {
		case 0:
			now += int64(d.next(4))
			var want []int
			for len(m) > 0 && m[0].at <= now {
				want = append(want, m[0].id)
				m = m[1:]
			}
			if got := q.Due(now); !slices.Equal(got, want) {
				t.Fatal(got, want)
			}
		case 1:
			n := slices.IndexFunc(m, func(o modelled) bool { return o.id == id })
			if e := q.Cancel(id); (e == api.OK) != (n >= 0) {
				t.Fatal(e)
			}
			if n >= 0 {
				m = slices.Delete(m, n, n+1)
			}
		default:
			at := now + int64(d.next(40))
			there := slices.DeleteFunc(slices.Clone(m), func(o modelled) bool { return o.id == id })
			if len(there) == 64 {
				if e := q.Set(id, at); e != api.ErrFull {
					t.Fatal(e)
				}
				break
			}
			m = append(there, modelled{timer{id, at}, turn})
			slices.SortFunc(m, inOrder)
			if e := q.Set(id, at); e != api.OK {
				t.Fatal(e)
			}
		}
		most = max(most, len(m))
		if l := all(q); !slices.EqualFunc(l, m, func(a timer, b modelled) bool { return a == b.timer }) || len(l) > 64 {
			t.Fatal(l, m)
		}
	}
	if most != 64 {
		t.Error(most)
	}
}

// drawn answers a queue of drawn timers.
func (d *draws) drawn() *Queue {
	q := New()
	for range d.next(80) {
		q.Set(d.next(70), int64(d.next(50)))
	}
	return q
}

// P8.3

func TestDueComesToPopUntilThereIsNone(t *testing.T) {
	var d draws = 2
	for range 3000 {
		q := d.drawn()
		c := q.Copy()
		now := int64(d.next(60))
		var popped []int
		for {
			id, e := c.Pop(now)
			if e != api.OK {
				if e != api.ErrNone {
					t.Fatal(e)
				}
				break
			}
			popped = append(popped, id)
		}
		if l := q.Due(now); !slices.Equal(l, popped) || !slices.Equal(all(q), all(c)) {
			t.Fatal(l, popped)
		}
	}
}

// P8.7

func TestToldLaterTheyAreTheSame(t *testing.T) {
	var d draws = 3
	for range 3000 {
		q := d.drawn()
		c := q.Copy()
		var early []int
		now := int64(0)
		for now < 40 {
			now += int64(d.next(10))
			early = append(early, c.Due(now)...)
		}
		if l := q.Due(now); !slices.Equal(l, early) {
			t.Fatal(l, early)
		}
	}
}
