package pool

import (
	"math"
	"slices"
	"strconv"
	"strings"
	"testing"

	"tether/api"
)

// made answers a pool of addresses.
func made(t *testing.T, l ...int64) *Pool {
	t.Helper()
	p, e := New(l)
	if e != api.OK {
		t.Fatal(e)
	}
	return p
}

// lends checks that a name is lent an address.
func lends(t *testing.T, p *Pool, name string, wish, want int64) {
	t.Helper()
	if n, e := p.Lend(name, wish); n != want || e != api.OK {
		t.Errorf("Lend(%q, %d) = %d %v, not %d", name, wish, n, e, want)
	}
}

// fails checks that a name is lent nothing.
func fails(t *testing.T, p *Pool, name string, wish int64, want api.Errno) {
	t.Helper()
	if n, e := p.Lend(name, wish); n != 0 || e != want {
		t.Errorf("Lend(%q, %d) = %d %v, not %v", name, wish, n, e, want)
	}
}

// back checks that a name gives an address back.
func back(t *testing.T, p *Pool, name string, want int64) {
	t.Helper()
	if n, e := p.Back(name); n != want || e != api.OK {
		t.Errorf("Back(%q) = %d %v, not %d", name, n, e, want)
	}
}

// lent is an address that is lent, and to whom.
type lent struct {
	addr int64
	name string
}

// all answers all that All tells.
func all(p *Pool) []lent {
	var l []lent
	for addr, name := range p.All() {
		l = append(l, lent{addr, name})
	}
	return l
}

// is checks what is lent, and how many are free.
func is(t *testing.T, p *Pool, free int, want ...lent) {
	t.Helper()
	if got := all(p); !slices.Equal(got, want) || p.Free() != free {
		t.Errorf("%v, %d free, not %v, %d", got, p.Free(), want, free)
	}
	for _, l := range want {
		if name, ok := p.Holder(l.addr); name != l.name || !ok {
			t.Error(l, name, ok)
		}
		if addr, ok := p.Held(l.name); addr != l.addr || !ok {
			t.Error(l, addr, ok)
		}
	}
}

// P16.2

func TestAsInTheExamples(t *testing.T) {
	p := made(t, 1, 2, 3)
	lends(t, p, "a", 0, 1)
	lends(t, p, "b", 1, 2)
	back(t, p, "a", 1)
	lends(t, p, "c", 0, 3)
	lends(t, p, "d", 0, 1)
	fails(t, p, "a", 0, api.ErrFull)
	is(t, p, 0, lent{1, "d"}, lent{2, "b"}, lent{3, "c"})
}

func TestNew(t *testing.T) {
	for _, l := range [][]int64{nil, {}, {math.MaxUint32, 1, 7}, from(1, 256)} {
		p := made(t, l...)
		if p.Len() != len(l) {
			t.Error(p.Len())
		}
		is(t, p, len(l))
	}
	l := []int64{1, 2}
	p := made(t, l...)
	l[0] = 9
	lends(t, p, "a", 0, 1)
	if _, e := p.Lend("b", 9); e != api.OK || p.Hold(9) != api.ErrNone {
		t.Error("the list that was handed in is kept")
	}
}

func TestLendOfWhatIsNoName(t *testing.T) {
	p := made(t, 1)
	for _, name := range []string{"", "\"", "\\", "a\"b", "a\\", "\n", "\x1f", "\x7f", "ä", "a\x00", strings.Repeat("a", 65)} {
		fails(t, p, name, 1, api.ErrName)
		if _, e := p.Back(name); e != api.ErrNone {
			t.Errorf("%q: %v", name, e)
		}
		if addr, ok := p.Held(name); addr != 0 || ok {
			t.Errorf("%q: %v", name, addr)
		}
	}
	is(t, p, 1)
	lends(t, p, strings.Repeat("~", 64), 0, 1)
	fails(t, p, "", 1, api.ErrName) // ahead of ErrFull
	fails(t, p, " ", 1, api.ErrFull)
	back(t, p, strings.Repeat("~", 64), 1)
	lends(t, p, " ", 1, 1)
}

func TestLendToOneThatHolds(t *testing.T) {
	p := made(t, 1, 2, 3)
	lends(t, p, "a", 2, 2)
	for _, wish := range []int64{0, 1, 2, 3, 4, -1} {
		lends(t, p, "a", wish, 2)
	}
	is(t, p, 2, lent{2, "a"})
	lends(t, p, "b", 1, 1)
	lends(t, p, "c", 3, 3)
	lends(t, p, "a", 1, 2) // even where none is free
	is(t, p, 0, lent{1, "b"}, lent{2, "a"}, lent{3, "c"})
}

func TestLendOfAWish(t *testing.T) {
	p := made(t, 5, 9, 2, 7)
	lends(t, p, "a", 7, 7)
	lends(t, p, "b", 7, 5) // it is held
	lends(t, p, "c", 2, 2)
	back(t, p, "a", 7)
	lends(t, p, "d", 7, 7) // though it is a's last
	back(t, p, "d", 7)
	lends(t, p, "a", 0, 9) // and so it is not any more
	back(t, p, "a", 9)
	lends(t, p, "d", 9, 9) // a wish goes ahead of the last one
	is(t, p, 1, lent{5, "b"}, lent{9, "d"}, lent{2, "c"})
	for _, wish := range append(noAddrs(), 1, 3, 10) {
		q := made(t, 5, 9)
		lends(t, q, "a", wish, 5)
	}
}

func TestLendOfTheLastOne(t *testing.T) {
	p := made(t, 1, 2, 3, 4)
	lends(t, p, "a", 3, 3)
	back(t, p, "a", 3)
	lends(t, p, "a", 0, 3)
	back(t, p, "a", 3)
	lends(t, p, "b", 0, 1)
	lends(t, p, "a", 1, 3) // the wish is held
	back(t, p, "a", 3)
	lends(t, p, "a", 4, 4)
	back(t, p, "a", 4)
	lends(t, p, "c", 3, 3)
	lends(t, p, "a", 3, 4) // the last one is the one that was held last
	back(t, p, "a", 4)
	lends(t, p, "d", 0, 2) // not 4: it is a's
	lends(t, p, "e", 0, 4) // none else is free
	back(t, p, "e", 4)
	lends(t, p, "a", 0, 4) // the first one that is free: it is e's now, and a has none
	is(t, p, 0, lent{1, "b"}, lent{2, "d"}, lent{3, "c"}, lent{4, "a"})
}

func TestANameHasOneLastAddress(t *testing.T) {
	p := made(t, 1, 2, 3)
	lends(t, p, "a", 1, 1)
	back(t, p, "a", 1)
	lends(t, p, "a", 2, 2)
	back(t, p, "a", 2)
	lends(t, p, "b", 0, 1) // it is nobody's last one any more
	lends(t, p, "c", 0, 3)
	lends(t, p, "d", 0, 2)
	is(t, p, 0, lent{1, "b"}, lent{2, "d"}, lent{3, "c"})
}

func TestLendGoesByThePoolsOrder(t *testing.T) {
	p := made(t, 9, 1, 5)
	lends(t, p, "a", 0, 9)
	lends(t, p, "b", 0, 1)
	back(t, p, "a", 9)
	back(t, p, "b", 1)
	lends(t, p, "c", 0, 5)
	lends(t, p, "d", 0, 9) // both are somebody's last: the first one
	lends(t, p, "e", 0, 1)
}

func TestLendOfAPoolThatIsFull(t *testing.T) {
	p := made(t)
	fails(t, p, "a", 1, api.ErrFull)
	p = made(t, from(1, 256)...)
	for i := range 256 {
		lends(t, p, "n"+strconv.Itoa(i), 0, int64(i+1))
	}
	fails(t, p, "m", 7, api.ErrFull)
	back(t, p, "n6", 7)
	lends(t, p, "m", 0, 7)
}

// P16.3

func TestBack(t *testing.T) {
	p := made(t, 1, 2)
	if n, e := p.Back("a"); n != 0 || e != api.ErrNone {
		t.Error(n, e)
	}
	lends(t, p, "a", 2, 2)
	back(t, p, "a", 2)
	is(t, p, 2)
	for range 2 {
		if n, e := p.Back("a"); n != 0 || e != api.ErrNone {
			t.Error(n, e)
		}
	}
	if addr, ok := p.Held("a"); addr != 0 || ok {
		t.Error(addr)
	}
	if name, ok := p.Holder(2); name != "" || ok {
		t.Error(name)
	}
	lends(t, p, "a", 0, 2)
}

func TestHold(t *testing.T) {
	p := made(t, 1, 2, 3)
	lends(t, p, "a", 0, 1)
	lends(t, p, "b", 2, 2)
	back(t, p, "b", 2)
	for _, n := range append(noAddrs(), 4, 0x01000000) {
		if e := p.Hold(n); e != api.ErrNone {
			t.Error(n, e)
		}
	}
	if e := p.Hold(1); e != api.ErrTwice {
		t.Error(e)
	}
	is(t, p, 2, lent{1, "a"})
	if e := p.Hold(2); e != api.OK {
		t.Error(e)
	}
	is(t, p, 1, lent{1, "a"})
	if e := p.Hold(2); e != api.ErrTwice {
		t.Error(e)
	}
	if name, ok := p.Holder(2); name != "" || ok {
		t.Error(name)
	}
	if n, e := p.Back("b"); n != 0 || e != api.ErrNone {
		t.Error(n, e)
	}
	lends(t, p, "b", 2, 3) // neither a wish nor the last one any more
	fails(t, p, "c", 2, api.ErrFull)
	is(t, p, 0, lent{1, "a"}, lent{3, "b"})
	if p.Len() != 3 {
		t.Error(p.Len())
	}
}

func TestHolderOfWhatIsNoneOfThePools(t *testing.T) {
	p := made(t, 1, 2)
	lends(t, p, "a", 0, 1)
	for _, n := range append(noAddrs(), 2, 3) {
		if name, ok := p.Holder(n); name != "" || ok {
			t.Error(n, name)
		}
	}
}

func TestAllTellsInThePoolsOrder(t *testing.T) {
	p := made(t, 9, 1, 5, 3)
	lends(t, p, "z", 3, 3)
	lends(t, p, "m", 1, 1)
	lends(t, p, "a", 9, 9)
	for range 50 {
		is(t, p, 1, lent{9, "a"}, lent{1, "m"}, lent{3, "z"})
	}
	for addr, name := range p.All() {
		if addr != 9 || name != "a" {
			t.Error(addr, name)
		}
		break
	}
}

func TestAllTellsWhatWasWhenItWasCalled(t *testing.T) {
	p := made(t, 1, 2)
	lends(t, p, "a", 0, 1)
	lends(t, p, "b", 0, 2)
	seq := p.All()
	back(t, p, "a", 1)
	lends(t, p, "c", 1, 1)
	for range 2 {
		var got []lent
		for addr, name := range seq {
			got = append(got, lent{addr, name})
			p.Back(name)
		}
		if !slices.Equal(got, []lent{{1, "a"}, {2, "b"}}) {
			t.Error(got)
		}
	}
}

// P16.4 to P16.6, and all of it by a model

// model is a pool by its words: what was done, in order.
type model struct {
	order []int64
	done  []act
}

// act: a name was lent an address, gave it back; without a name, it was held for ever.
type act struct {
	name string
	addr int64
	back bool
}

// who answers who holds an address; held is true with no name, if nobody's name does.
func (m *model) who(addr int64) (name string, held bool) {
	for _, a := range m.done {
		if a.addr == addr {
			name, held = a.name, !a.back
		}
	}
	if !held {
		name = ""
	}
	return name, held
}

// last answers the last act of an address or of a name.
func (m *model) last(of func(a act) bool) (act, bool) {
	for i := len(m.done) - 1; i >= 0; i-- {
		if of(m.done[i]) {
			return m.done[i], true
		}
	}
	return act{}, false
}

// lasts answers a name's last address; 0, if it has none.
func (m *model) lasts(name string) int64 {
	a, had := m.last(func(a act) bool { return a.name == name })
	if !had {
		return 0
	}
	if b, _ := m.last(func(b act) bool { return b.addr == a.addr }); b.name != name {
		return 0
	}
	return a.addr
}

func (m *model) free() []int64 {
	return slices.DeleteFunc(slices.Clone(m.order), func(n int64) bool {
		_, held := m.who(n)
		return held
	})
}

// lend answers what a name is lent by the words, and does it.
func (m *model) lend(name string, wish int64, names []string) (int64, api.Errno) {
	for _, n := range m.order {
		if who, held := m.who(n); held && who == name {
			return n, api.OK
		}
	}
	free := m.free()
	if len(free) == 0 {
		return 0, api.ErrFull
	}
	pick := free[0]
	if i := slices.IndexFunc(free, func(n int64) bool {
		return !slices.ContainsFunc(names, func(other string) bool { return m.lasts(other) == n })
	}); i >= 0 {
		pick = free[i]
	}
	if n := m.lasts(name); slices.Contains(free, n) {
		pick = n
	}
	if slices.Contains(free, wish) {
		pick = wish
	}
	m.done = append(m.done, act{name: name, addr: pick})
	return pick, api.OK
}

func (m *model) giveBack(name string) (int64, api.Errno) {
	a, had := m.last(func(a act) bool { return a.name == name })
	if !had || a.back {
		return 0, api.ErrNone
	}
	a.back = true
	m.done = append(m.done, a)
	return a.addr, api.OK
}

func (m *model) hold(addr int64) api.Errno {
	if !slices.Contains(m.order, addr) {
		return api.ErrNone
	}
	if _, held := m.who(addr); held {
		return api.ErrTwice
	}
	m.done = append(m.done, act{addr: addr})
	return api.OK
}

func (m *model) all() []lent {
	var l []lent
	for _, n := range m.order {
		if name, _ := m.who(n); name != "" {
			l = append(l, lent{n, name})
		}
	}
	return l
}

func TestAPoolIsAsItsWords(t *testing.T) {
	var d draws = 3
	names := []string{"a", "b", "c", "d", "e", "f"}
	for range 1500 {
		l := d.addrs(5)
		p, m := made(t, l...), &model{order: l}
		for range 60 {
			name, addr := names[d.next(len(names))], int64(d.next(30))
			if d.next(2) == 0 {
				addr = l[d.next(len(l))]
			}
			var got, want int64
			var e, f api.Errno
			switch d.next(12) {
			case 0:
				e, f = p.Hold(addr), m.hold(addr)
			case 1, 2, 3, 4, 5:
				got, e = p.Back(name)
				want, f = m.giveBack(name)
			default:
				addr *= int64(d.next(2))
				wasFree := m.free()
				_, held := p.Held(name)
				got, e = p.Lend(name, addr)
				want, f = m.lend(name, addr, names)
				if !held && len(wasFree) > 0 && !slices.Contains(wasFree, got) {
					t.Fatal("it was not free:", got)
				}
			}
			if got != want || e != f {
				t.Fatal(l, m.done, got, e, want, f)
			}
			is(t, p, len(m.free()), m.all()...)
		}
	}
}

func TestANameGetsItsAddressAgain(t *testing.T) {
	var d draws = 4
	for range 300 {
		l := d.addrs(20)
		p := made(t, append(l, 1000)...)
		mine := l[d.next(len(l))]
		lends(t, p, "me", mine, mine)
		back(t, p, "me", mine)
		for i := range d.next(len(l)) {
			if n, e := p.Lend("n"+strconv.Itoa(i), 0); n == mine || e != api.OK {
				t.Fatal("somebody else got it, though others were free")
			}
		}
		lends(t, p, "me", 5000, mine)
	}
}

// P1

func TestOfNil(t *testing.T) {
	var p *Pool
	if n, e := p.Lend("", 1); n != 0 || e != api.ErrNil {
		t.Error(n, e)
	}
	if n, e := p.Back("a"); n != 0 || e != api.ErrNil {
		t.Error(n, e)
	}
	if e := p.Hold(1); e != api.ErrNil {
		t.Error(e)
	}
	if name, ok := p.Holder(1); name != "" || ok {
		t.Error(name)
	}
	if addr, ok := p.Held("a"); addr != 0 || ok {
		t.Error(addr)
	}
	if p.Free() != 0 || p.Len() != 0 || len(all(p)) != 0 {
		t.Error("of nil")
	}
}

func TestOfAPoolThatNewDidNotMake(t *testing.T) {
	p := &Pool{}
	fails(t, p, "a", 1, api.ErrFull)
	if n, e := p.Back("a"); n != 0 || e != api.ErrNone {
		t.Error(n, e)
	}
	if e := p.Hold(1); e != api.ErrNone {
		t.Error(e)
	}
	is(t, p, 0)
	if p.Len() != 0 {
		t.Error(p.Len())
	}
}

func TestPoolsAreOnTheirOwn(t *testing.T) {
	p, q := made(t, 1, 2), made(t, 1, 2)
	lends(t, p, "a", 0, 1)
	lends(t, q, "b", 0, 1)
	is(t, p, 1, lent{1, "a"})
	is(t, q, 1, lent{1, "b"})
}
