package auto

import (
	"slices"
	"testing"

	"tether/api"
)

// P10.4, P10.7, and the counter's words

func TestAnAutomatonIsUpJustInOpened(t *testing.T) {
	var d draws = 2
	for range 2000 {
		maxConfigure, maxTerminate := 1+d.next(5), 1+d.next(5)
		a := New(maxConfigure, maxTerminate)
		isUp, count := false, 0
		for range 60 {
			event := d.next(16)
			state := a.State()
			l, e := a.Do(event)
			if e != api.OK {
				if a.State() != state || a.Count() != count {
					t.Fatal("a refused call changed something")
				}
				continue
			}
			for _, action := range l {
				switch action {
				case api.ATlu, api.ATld:
					if isUp == (action == api.ATlu) {
						t.Fatal("tlu and tld do not take turns")
					}
					isUp = action == api.ATlu
				}
			}
			count = counted(count, l, maxConfigure, maxTerminate)
			if isUp != (a.State() == api.SOpened) || a.Count() != count {
				t.Fatal(isUp, a.State(), a.Count(), count)
			}
		}
	}
}

// counted is the counter behind actions.
func counted(count int, actions []int, maxConfigure, maxTerminate int) int {
	for _, action := range actions {
		switch {
		case action == api.AIrc && slices.Contains(actions, api.AStr):
			count = maxTerminate
		case action == api.AIrc:
			count = maxConfigure
		case action == api.AZrc:
			count = 0
		case (action == api.AScr || action == api.AStr) && count > 0:
			count--
		}
	}
	return count
}

// P10.5

func TestTimeoutsAloneEnd(t *testing.T) {
	for state := api.SClosing; state <= api.SAckSent; state++ {
		for count := range 256 {
			a := &Auto{state: state, count: count, maxConfigure: 255, maxTerminate: 255}
			turns := 0
			for a.Running() {
				if _, e := a.Timeout(); e != api.OK {
					t.Fatal(e)
				}
				turns++
			}
			want := api.SStopped
			if state == api.SClosing {
				want = api.SClosed
			}
			if turns != count+1 || a.State() != want {
				t.Error(state, count, turns, a.State())
			}
			if _, e := a.Timeout(); e != api.ErrEvent {
				t.Error(e)
			}
		}
	}
}

// P10.6

// pair is two automata, and the events that are on their way to each of them, a digit each.
type pair struct {
	a, b     Auto
	toA, toB string
}

func (p pair) deliver(t *testing.T, sideA bool) pair {
	t.Helper()
	if !sideA {
		p.a, p.b, p.toA, p.toB = p.b, p.a, p.toB, p.toA
	}
	l, e := p.a.Do(int(p.toA[0] - '0'))
	if e != api.OK {
		t.Fatal(e)
	}
	p.toA = p.toA[1:]
	p.toB += coming(t, l)
	if !sideA {
		p.a, p.b, p.toA, p.toB = p.b, p.a, p.toB, p.toA
	}
	return p
}

// coming are the events that what is sent is at the other end, all requests being good.
func coming(t *testing.T, actions []int) string {
	t.Helper()
	out := ""
	for _, code := range Sends(actions...) {
		switch code {
		case api.CConfReq:
			out += string(rune('0' + api.ERCRP))
		case api.CConfAck:
			out += string(rune('0' + api.ERCA))
		default:
			t.Fatal(code)
		}
	}
	return out
}

func TestTwoAgreeInWhateverOrder(t *testing.T) {
	for _, late := range []bool{false, true} {
		a, b := New(10, 2), New(3, 1)
		a.Do(api.EOpen)
		b.Do(api.EOpen)
		la, _ := a.Do(api.EUp)
		start := pair{a: *a, b: *b, toB: coming(t, la)}
		if !late {
			lb, _ := start.b.Do(api.EUp)
			start.toA = coming(t, lb)
		}
		if ends := followAll(t, start, late); ends == 0 {
			t.Error("no end")
		}
	}
}

// followAll goes through all orders in which what is on its way can come, and answers in how many ways it ends; with late b may get up at any time ahead of the first packet that comes to it.
func followAll(t *testing.T, start pair, late bool) int {
	t.Helper()
	seen := map[pair]bool{start: true}
	waiting := []pair{start}
	ends := 0
	for len(waiting) > 0 {
		p := waiting[0]
		waiting = waiting[1:]
		var next []pair
		if p.toA != "" {
			next = append(next, p.deliver(t, true))
		}
		if late && p.b.State() == api.SStarting {
			l, _ := p.b.Do(api.EUp)
			p.toA += coming(t, l)
			next = append(next, p)
		} else if p.toB != "" {
			next = append(next, p.deliver(t, false))
		}
		if len(next) == 0 {
			ends++
			if p.a.State() != api.SOpened || p.b.State() != api.SOpened {
				t.Error(p)
			}
		}
		for _, n := range next {
			if !seen[n] {
				seen[n] = true
				waiting = append(waiting, n)
			}
		}
		if len(seen) > 100000 {
			t.Fatal("it does not end")
		}
	}
	return ends
}
