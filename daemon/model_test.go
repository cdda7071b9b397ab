package daemon

import (
	"bytes"

	"tether/api"
	"tether/chat"
	"tether/conf"
	"tether/filter"
	"tether/link"
	"tether/meter"
	"tether/phase"
	"tether/policy"
	"tether/secret"
)

// model is the daemon once more, put down from the chapter's words, sentence by sentence.
type model struct {
	c         api.Conf
	steps     []chat.Step
	nodes     []filter.Node
	link      *link.Link
	policy    *policy.Policy
	started   bool
	clock     int64
	carrier   bool
	waited    bool
	run       *chat.Run
	opened    bool
	wasReady  bool
	queue     [][]byte
	packets   int64
	bytes     int64
	out       []api.Out
	dials     int
	byPackets int // dials that a packet that is told brought
}

func newModel(options, secrets string, seed uint64) *model {
	m := &model{}
	m.c, _, _ = conf.Parse(options)
	l, _, _ := secret.Parse(secrets)
	m.steps, _, _ = chat.Parse(m.c.Chat)
	m.nodes, _, _ = filter.Parse(m.c.Filter)
	m.link, _ = link.New(m.c, l, m.c.RemoteIp, seed)
	m.policy, _ = policy.New(m.c)
	return m
}

func (m *model) told(b []byte) bool {
	if m.c.Filter == "" {
		return len(b) > 0 && (b[0]>>4 == 4 || b[0]>>4 == 6)
	}
	is, _ := filter.Holds(m.nodes, b)
	return is
}

func (m *model) ready(b []byte) bool {
	ip, ip6 := m.link.Ready()
	return b[0]>>4 == 4 && ip || b[0]>>4 == 6 && ip6
}

func (m *model) says(b []byte, _ api.Errno) {
	if len(b) > 0 {
		m.out = append(m.out, api.Out{Kind: api.OSerial, B: b})
	}
}

func (m *model) ofLink(l []api.Out, e api.Errno) api.Errno {
	for _, o := range l {
		m.out = append(m.out, o)
		if o.Kind == api.OTun && m.told(o.B) {
			m.answers(m.policy.Packet(m.clock, true))
		}
	}
	return e
}

func (m *model) answers(l []int, _ api.Errno) {
	for _, do := range l {
		if do == policy.Dial {
			m.dial()
		} else {
			m.hangUp()
		}
	}
}

func (m *model) dial() {
	m.dials++
	m.out = append(m.out, api.Out{Kind: api.ODial})
	if len(m.c.Chat) > 0 {
		m.run, _ = chat.New(m.steps)
		m.says(m.run.Start(m.clock))
	} else if m.carrier {
		m.open()
	} else {
		m.waited = true
	}
}

func (m *model) open() {
	m.waited = false
	m.opened = true
	m.wasReady = false
	m.ofLink(m.link.Open(m.clock))
}

func (m *model) hangUp() {
	if m.run != nil || m.waited {
		m.run = nil
		m.waited = false
		m.hung()
	} else if m.link.Phase() != phase.Dead {
		m.ofLink(m.link.Close(m.clock))
	}
}

func (m *model) hung() {
	m.out = append(m.out, api.Out{Kind: api.OHang})
	m.answers(m.policy.LinkDown(m.clock))
}

func (m *model) send(b []byte) {
	if m.ofLink(m.link.Send(m.clock, b)) != api.OK {
		m.packets++
	}
}

func (m *model) settle() {
	for {
		state := chat.Running
		if m.run != nil {
			state, _ = m.run.State()
		}
		ip, ip6 := m.link.Ready()
		if state == chat.Done {
			run := m.run
			m.run = nil
			m.open()
			if b := run.Left(); len(b) > 0 {
				m.ofLink(m.link.Feed(m.clock, b))
			}
			continue
		}
		if state != chat.Running {
			m.run = nil
			m.hung()
			continue
		}
		if m.opened && m.link.Phase() == phase.Dead {
			m.opened = false
			if !m.c.Demand {
				m.packets += int64(len(m.queue))
				m.queue = nil
			}
			m.hung()
			continue
		}
		if (ip || ip6) && !m.wasReady {
			m.wasReady = true
			m.answers(m.policy.LinkUp(m.clock))
			continue
		}
		went := false
		for i, b := range m.queue {
			if m.ready(b) {
				m.queue = append(append([][]byte(nil), m.queue[:i]...), m.queue[i+1:]...)
				m.send(b)
				went = true
				break
			}
		}
		if !went {
			return
		}
	}
}

// call does what is called by a name.
func (m *model) call(name string, e api.Event) ([]api.Out, api.Errno) {
	m.out = nil
	if name == "start" {
		if m.started {
			return nil, api.ErrState
		}
		m.started = true
		m.answers(m.policy.Start(m.clock))
		m.settle()
		return m.out, api.OK
	}
	if !m.started {
		return nil, api.ErrState
	}
	switch name {
	case "up":
		m.answers(m.policy.Up(m.clock))
	case "down":
		m.answers(m.policy.Down(m.clock))
	default:
		if wrong := m.step(e); wrong != api.OK {
			return nil, wrong
		}
	}
	m.settle()
	return m.out, api.OK
}

func (m *model) step(e api.Event) api.Errno {
	switch e.Kind {
	case api.VTick:
		if e.N < 0 || e.N > api.MaxTime || e.N < m.clock {
			return api.ErrArg
		}
		m.clock = e.N
		m.answers(m.policy.Tick(m.clock))
		if m.run != nil {
			m.says(m.run.Tick(m.clock))
		} else if m.link.Phase() != phase.Dead {
			m.ofLink(m.link.Tick(m.clock))
		}
	case api.VSerial:
		if m.run != nil {
			m.says(m.run.Feed(m.clock, e.B))
		} else if m.link.Phase() != phase.Dead {
			m.ofLink(m.link.Feed(m.clock, e.B))
		} else {
			m.bytes += int64(len(e.B))
		}
	case api.VTun:
		return m.tun(e.B)
	case api.VRandom:
		m.link.Random(uint64(e.N))
	case api.VModem:
		if e.N != 0 && e.N != 1 {
			return api.ErrArg
		}
		m.carrier = e.N == 1
		if m.carrier {
			if m.waited {
				m.open()
			}
			return api.OK
		}
		if m.run != nil {
			m.run = nil
			m.hung()
		}
		if m.link.Phase() != phase.Dead {
			m.ofLink(m.link.Lost(m.clock))
		}
	default:
		return api.ErrEvent
	}
	return api.OK
}

func (m *model) tun(b []byte) api.Errno {
	if len(b) == 0 || b[0]>>4 != 4 && b[0]>>4 != 6 {
		return api.ErrIp
	}
	if m.told(b) {
		ahead := m.dials
		m.answers(m.policy.Packet(m.clock, true))
		m.byPackets += m.dials - ahead
	}
	same := false
	for _, o := range m.queue {
		same = same || o[0]>>4 == b[0]>>4
	}
	if m.ready(b) && !same {
		m.send(b)
	} else if (m.c.Demand || m.policy.State() == policy.Dials) && len(m.queue) < 64 {
		m.queue = append(m.queue, bytes.Clone(b))
	} else {
		m.packets++
	}
	return api.OK
}

// next answers when something is due; -1: never.
func (m *model) next() int64 {
	out := int64(-1)
	least := func(at int64, is bool) {
		if is && (out < 0 || at < out) {
			out = at
		}
	}
	at, e := m.policy.Next()
	least(at, e == api.OK)
	if m.run != nil {
		least(m.run.Deadline())
	}
	at, e = m.link.Next()
	least(at, e == api.OK)
	return out
}

func (m *model) numbers(out bool) (meter.Counts, float64, float64) {
	c := m.link.Counts(out)
	return c, meter.Ratio(float64(c.Bytes)*1000, float64(m.clock)), meter.Ratio(float64(c.Bytes-c.Wire), float64(c.Bytes))
}
