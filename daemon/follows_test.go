package daemon

import (
	"bytes"
	"math"
	"slices"
	"testing"

	"tether/api"
	"tether/auto"
	"tether/hdlc"
	"tether/opt"
	"tether/phase"
	"tether/policy"
)

// watch plays drawn worlds, and shows each call.
func watch(t *testing.T, seed chance, worlds int, see func(s seen)) {
	t.Helper()
	d := seed
	for range worlds {
		w := d.newWorld(t, d.next(2) == 0)
		w.see = see
		w.starts()
		for range 120 {
			w.step(&d)
		}
	}
}

// protocols answers those of the frames that were put on the line.
func protocols(l []api.Out) []int {
	var out []int
	for _, o := range l {
		if o.Kind == api.OSerial {
			for _, f := range hdlc.New(api.MaxMru, 0, true, true).Feed(o.B) {
				out = append(out, f.Proto)
			}
		}
	}
	return out
}

// has tells whether something of a kind was put out.
func has(l []api.Out, kind int) bool {
	return slices.ContainsFunc(l, func(o api.Out) bool { return o.Kind == kind })
}

// P29.5

// calls of an end, and what they answered.
type played struct {
	options, secrets string
	seed             uint64
	l                []seen
}

// replay lets another daemon do the same; between is called ahead of each call, and spoil gets what was put out.
func (p played) replay(t *testing.T, between func(), spoil func([]api.Out)) {
	t.Helper()
	k, e, _, _ := New(p.options, p.secrets, p.seed)
	if e != api.OK {
		t.Fatal(e)
	}
	for _, s := range p.l {
		between()
		var got []api.Out
		var err api.Errno
		e := s.e
		e.B = bytes.Clone(e.B)
		switch s.name {
		case "start":
			got, err = k.Start()
		case "up":
			got, err = k.Up()
		case "down":
			got, err = k.Down()
		default:
			got, err = k.Step(e)
		}
		if err != s.err || !sameOuts(got, s.out) {
			t.Fatal(s.name, e, "answered", told(got), err, "instead of", told(s.out), s.err)
		}
		for i := range e.B { // it is not kept
			e.B[i] ^= 0xff
		}
		spoil(got)
	}
}

func TestWhatIsPutOutHangsOnWhatCameAlone(t *testing.T) {
	for seed := range chance(60) {
		d := seed + 1000
		p := played{options: d.options("mill", "alice", "10.0.0.1"), secrets: d.secrets(), seed: uint64(d.next(1 << 31))}
		other := d.newEnd(t, p.options, p.secrets)
		k, e, _, _ := New(p.options, p.secrets, p.seed)
		if e != api.OK {
			t.Fatal(e)
		}
		w := &world{t: t, mean: true}
		w.ends[0] = &end{d: k, m: newModel(p.options, p.secrets, p.seed)}
		w.ends[1] = d.newEnd(t, d.options("alice", "mill", "10.0.0.2"), p.secrets)
		w.see = func(s seen) {
			if s.side == 0 {
				s.out, s.e.B = copies(s.out), bytes.Clone(s.e.B)
				p.l = append(p.l, s)
			}
		}
		w.starts()
		for range 200 {
			w.step(&d)
		}
		nothing := func() {}
		p.replay(t, nothing, func([]api.Out) {})
		p.replay(t, func() { other.d.Start(); other.d.Step(api.Event{Kind: api.VModem, N: 1}) }, func(l []api.Out) {
			for i := range l {
				for j := range l[i].B[:cap(l[i].B)] {
					l[i].B[:cap(l[i].B)][j] ^= 0xff
				}
			}
			for range 3 {
				l = append(l, api.Out{Kind: 99})
			}
		})
	}
}

func TestNoTwoOutsShareMemory(t *testing.T) {
	watch(t, 77, 60, func(s seen) {
		l := copies(s.out)
		for i := range s.out {
			_ = append(s.out[i].B, 1, 2, 3, 4)
			for j := range s.out[i].B {
				s.out[i].B[j] ^= 0x55
			}
			for j := i + 1; j < len(l); j++ {
				if !bytes.Equal(s.out[j].B, l[j].B) {
					t.Fatal(told(l))
				}
			}
			for j := range s.out[i].B {
				s.out[i].B[j] ^= 0x55
			}
		}
	})
}

// P3

// leads tells whether some events lead from a state to another one, and send just those codes; another automaton may come in between, if anew says so.
func leads(from, to int, codes []int, anew bool) bool {
	type place struct{ state, sent int }
	met := map[place]bool{}
	work := []place{{from, 0}}
	for len(work) > 0 {
		p := work[0]
		work = work[1:]
		if met[p] {
			continue
		}
		met[p] = true
		if anew {
			work = append(work, place{api.SInitial, p.sent})
		}
		for event := api.EUp; event <= api.ERXR; event++ {
			next, actions, e := auto.Next(p.state, event)
			sends := auto.Sends(actions...)
			if e == api.OK && len(sends) <= len(codes)-p.sent && slices.Equal(sends, codes[p.sent:p.sent+len(sends)]) {
				work = append(work, place{next, p.sent + len(sends)})
			}
		}
	}
	return met[place{to, len(codes)}]
}

func TestControlPacketsAreThoseOfTheTable(t *testing.T) {
	sent := map[int]int{}
	watch(t, 17, 400, func(s seen) {
		codes := map[int][]int{}
		for _, o := range s.out {
			if o.Kind != api.OSerial {
				continue
			}
			for _, f := range hdlc.New(api.MaxMru, 0, true, true).Feed(o.B) {
				if _, is := s.states[f.Proto]; !is {
					continue
				}
				p, e := opt.Unpack(f.Info)
				own := p.Code != api.CProtRej && p.Code != api.CEchoReq && p.Code != api.CEchoRep || f.Proto == api.PLcp
				if e != api.OK || !own || (p.Code == api.CResetReq || p.Code == api.CResetAck) && f.Proto != api.PCcp {
					t.Fatal(told(s.out))
				}
				sent[p.Code]++
				switch p.Code {
				case api.CProtRej, api.CEchoReq, api.CResetReq, api.CResetAck: // no automaton's
				case api.CConfRej: // the same action as a Nak's
					codes[f.Proto] = append(codes[f.Proto], api.CConfNak)
				default:
					codes[f.Proto] = append(codes[f.Proto], p.Code)
				}
			}
		}
		for n, to := range s.k.states() {
			if anew := n == api.PLcp && s.k.d.opened && s.phase == phase.Dead; !leads(s.states[n], to, codes[n], anew) {
				t.Fatal(n, s.states[n], to, told(s.out))
			}
		}
	})
	for _, code := range []int{1, 2, 3, 4, 5, 6, 8, 9, 10, 14, 15} {
		if sent[code] == 0 {
			t.Error(code, sent)
		}
	}
}

// P29.6

func TestNothingPassesWithoutAProof(t *testing.T) {
	passed := 0
	watch(t, 11, 900, func(s seen) {
		networks := has(s.out, api.OTun)
		for _, proto := range protocols(s.out) {
			networks = networks || proto < 0xc000
		}
		if !networks || s.k.d.Conf().Require == 0 {
			return
		}
		passed++
		if s.who == "" && s.k.d.Who() == "" || s.phase != phase.Network && s.k.d.Phase() != phase.Network {
			t.Fatal(told(s.out))
		}
	})
	if passed < 1500 {
		t.Error(passed)
	}
}

func TestNobodyWhoHasNotProvedItGetsAnything(t *testing.T) {
	for i, method := range []string{"pap", "chap", "eap"} {
		d := chance(i)
		for range 60 {
			options := d.options("mill", "alice", "10.0.0.1") + "require-" + method + "\n"
			w := &world{t: t, mean: true}
			w.ends[0] = d.newEnd(t, options, "alice mill \"not to be guessed\"")
			w.ends[1] = d.newEnd(t, d.options("alice", "mill", "10.0.0.2"), "alice mill guess")
			w.see = func(s seen) {
				if s.side == 0 && (has(s.out, api.OTun) || s.k.d.Phase() == phase.Network || slices.ContainsFunc(protocols(s.out), func(n int) bool { return n < 0xc000 })) {
					t.Fatal(told(s.out))
				}
			}
			w.starts()
			for range 150 {
				w.step(&d)
			}
		}
	}
}

// P29.7

func TestTheHoldoffIsKept(t *testing.T) {
	type line struct {
		hung int64
		was  bool
	}
	ends, kept := map[*end]*line{}, 0
	watch(t, 12, 500, func(s seen) {
		l := ends[s.k]
		if l == nil {
			l = &line{}
			ends[s.k] = l
		}
		for _, o := range s.out {
			switch o.Kind {
			case api.OHang:
				l.hung, l.was = s.k.d.Now(), true
			case api.ODial:
				if l.was && s.k.d.Now()-l.hung < s.k.d.Conf().Holdoff {
					t.Fatal(s.k.d.Now(), l.hung)
				}
				kept++
			}
		}
	})
	if kept < 1000 {
		t.Error(kept)
	}
}

func TestASessionEndsInTime(t *testing.T) {
	began, ended := map[*end]int64{}, 0
	watch(t, 13, 500, func(s seen) {
		at, session := s.k.d.Now(), s.k.d.Conf().Session
		state, why := s.k.d.Policy()
		switch {
		case state == policy.Runs && s.policy != policy.Runs:
			began[s.k] = at
		case state == policy.Runs && session != 0 && at >= began[s.k]+session:
			t.Fatal(at, began[s.k])
		case s.policy == policy.Runs && state == policy.Ends && why == "session":
			ended++
			if at < began[s.k]+session {
				t.Fatal(at, began[s.k])
			}
		}
	})
	if ended < 30 {
		t.Error(ended)
	}
}

func TestOnDemandADialComesBehindAWish(t *testing.T) {
	wished, dialled := map[*end]bool{}, 0
	watch(t, 14, 800, func(s seen) {
		c := s.k.d.Conf()
		if !c.Demand || c.Persist {
			return
		}
		state, why := s.k.d.Policy()
		if s.name == "up" || s.e.Kind == api.VTun && s.err == api.OK && s.k.m.told(s.e.B) {
			wished[s.k] = true
		}
		for _, o := range s.out {
			switch {
			case o.Kind == api.OTun && s.k.m.told(o.B): // it is one that matches, too
				wished[s.k] = true
			case o.Kind == api.ODial:
				dialled++
				if !wished[s.k] && why != "failed" {
					t.Fatal(s.name, s.e, told(s.out))
				}
			}
		}
		if state == policy.Runs || state == policy.Ends && s.policy != policy.Ends { // what was wished for is there, or is given up
			wished[s.k] = false
		}
	})
	if dialled < 200 {
		t.Error(dialled)
	}
}

func TestItGivesUp(t *testing.T) {
	failed, most := map[*end]int{}, 0
	watch(t, 15, 500, func(s seen) {
		maxfail := s.k.d.Conf().Maxfail
		if maxfail == 0 {
			return
		}
		if state, _ := s.k.d.Policy(); s.name == "up" || state == policy.Runs {
			failed[s.k] = 0
		}
		if has(s.out, api.OHang) && s.policy == policy.Dials && s.name != "down" {
			failed[s.k]++
		}
		if has(s.out, api.ODial) && failed[s.k] >= maxfail {
			t.Fatal(s.name, s.e, failed[s.k])
		}
		most = max(most, failed[s.k])
	})
	if most < 3 {
		t.Error(most)
	}
}

// P29.8

func TestTheQueueIsBounded(t *testing.T) {
	full := 0
	for seed := range chance(60) {
		d := seed + 500
		w := d.newWorld(t, false)
		w.starts()
		for range 400 {
			w.step(&d)
			for side, k := range w.ends {
				for range d.next(5) {
					w.does(side, "step", api.Event{Kind: api.VTun, B: of6(byte(d.next(256)))})
				}
				if n := k.d.Queue(); n < 0 || n > api.MaxQueue {
					t.Fatal(n)
				} else if n == api.MaxQueue {
					full++
				}
			}
		}
	}
	if full < 100 {
		t.Error(full)
	}
}

// P29.9

func TestDialsAndHangsTakeTurns(t *testing.T) {
	dialled, dials := map[*end]bool{}, 0
	watch(t, 16, 500, func(s seen) {
		for _, o := range s.out {
			switch o.Kind {
			case api.ODial:
				if dialled[s.k] {
					t.Fatal(told(s.out))
				}
				dialled[s.k] = true
				dials++
			case api.OHang:
				if !dialled[s.k] {
					t.Fatal(told(s.out))
				}
				dialled[s.k] = false
			}
		}
	})
	if dials < 1000 {
		t.Error(dials)
	}
}

// P1

func TestNothingPanics(t *testing.T) {
	numbers := []int64{math.MinInt64, -1, 0, 1, 2, 255, api.MaxTime, api.MaxTime + 1, math.MaxInt64}
	for seed := range chance(400) {
		d := seed + 9000
		text := func() string {
			b := make([]byte, d.next(60))
			for i := range b {
				b[i] = byte(d.next(one(&d, 128, 256)))
			}
			return string(b)
		}
		if k, e, _, _ := New(text(), text(), uint64(d)); (k == nil) == (e == api.OK) {
			t.Fatal(e)
		}
		options := d.options("mill", "alice", "10.0.0.1")
		k := d.newEnd(t, options, d.secrets())
		for range 60 {
			e := api.Event{Kind: d.next(10) - 1, N: one(&d, numbers...), Text: text()}
			if d.next(3) > 0 {
				e.B = []byte(text())
			}
			k.does(t, one(&d, "start", "up", "down", "step", "step", "step", "step", "step", "step"), e)
		}
	}
}

func TestGreatEvents(t *testing.T) {
	great := bytes.Repeat([]byte{0x45, 0x7d, 0x7e, 0, 0xff, 0x03}, 1<<18)
	for _, options := range []string{"", dialler, "demand\n", "demand\nfilter tcp\n"} {
		d := of(t, plain+options).d
		d.Start()
		for range 3 {
			for _, e := range []api.Event{
				{Kind: api.VSerial, B: great},
				{Kind: api.VTun, B: great},
				{Kind: api.VModem, N: 1},
				{Kind: api.VSerial, B: []byte("OKCONNECT" + string(great))},
			} {
				if _, err := d.Step(e); err != api.OK {
					t.Error(e.Kind, err)
				}
			}
			d.Up()
		}
		if packets, _ := d.Lost(); packets+int64(d.Queue()) != 3 {
			t.Error(packets, d.Queue())
		}
	}
}
