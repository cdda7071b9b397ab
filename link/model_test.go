package link

import (
	"bytes"
	"slices"

	"tether/api"
	"tether/auto"
	"tether/ccp"
	"tether/chap"
	"tether/conf"
	"tether/eap"
	"tether/hdlc"
	"tether/ipcp"
	"tether/ipv6cp"
	"tether/lcp"
	"tether/opt"
	"tether/pap"
	"tether/phase"
	"tether/secret"
)

// model is a link once more, put down straight from the chapter's words: one protocol's number after the other, with nothing shared between them but what is written here. It takes frames, not bytes.
type model struct {
	c    api.Conf
	l    []api.Secret
	give int64
	x    uint64
	now  int64
	ph   *phase.Track

	auto  map[int]*auto.Auto
	id    map[int]int // the last identifier
	due   map[int]int64
	naks  map[int]int
	reqId map[int]int // -1: there is no request
	req   map[int][]api.Option

	lcpMine, lcpTheirs   lcp.Opts
	ipMine, ipTheirs     ipcp.Opts
	ip6Mine, ip6Theirs   uint64
	ccpMine, ccpTheirs   ccp.Opts
	sender               *ccp.Sender
	receiver             *ccp.Receiver
	waits                int
	echoAt, challengeAt  int64 // -1: not due
	theirAt, myAt        int64
	theirTimes, myTimes  int
	theirDone, myDone    bool
	papS                 *pap.Server
	papP                 *pap.Peer
	chapJ                *chap.Judge
	chapMine, chapTold   bool
	chapId               int
	eapS                 *eap.Server
	eapP                 *eap.Peer
	packets, bytes, wire [2]int64
	dropped              int64
	out                  []api.Out
}

func newModel(c api.Conf, l []api.Secret, give int64, seed uint64) *model {
	if e, _ := conf.Right(c); e != api.OK {
		return nil
	}
	m := &model{c: c, l: l, give: give, x: seed, ph: phase.New(), auto: map[int]*auto.Auto{}, id: map[int]int{}, due: map[int]int64{}, naks: map[int]int{}, reqId: map[int]int{}, req: map[int][]api.Option{}, echoAt: -1, challengeAt: -1, theirAt: -1, myAt: -1}
	for _, n := range m.all() {
		m.auto[n] = auto.New(c.MaxConfigure, c.MaxTerminate)
		m.reqId[n] = -1
	}
	return m
}

// nets are the networks' numbers, all the automata's.
func (m *model) nets() []int {
	l := []int{0x8021}
	if m.c.Ipv6 {
		l = append(l, 0x8057)
	}
	if m.c.Deflate != 0 || m.c.Bsd != 0 {
		l = append(l, 0x80fd)
	}
	return l
}

func (m *model) all() []int {
	return append([]int{0xc021}, m.nets()...)
}

func (m *model) draw() uint64 {
	m.x = 6364136223846793005*m.x + 1442695040888963407
	return m.x
}

func (m *model) magic() uint32 {
	if n := uint32(m.draw() >> 32); n != 0 {
		return n
	}
	return 1
}

func (m *model) challenge() []byte {
	var b []byte
	for i := 0; i < 2; i++ {
		n := m.draw()
		b = append(b, byte(n>>56), byte(n>>48), byte(n>>40), byte(n>>32), byte(n>>24), byte(n>>16), byte(n>>8), byte(n))
	}
	return b
}

func (m *model) state(n int) int {
	if m.auto[n] == nil {
		return api.SInitial
	}
	return m.auto[n].State()
}

func (m *model) nextId(n int) int {
	m.id[n]++
	if m.id[n] == 256 {
		m.id[n] = 0
	}
	return m.id[n]
}

func (m *model) frame(f api.Frame) {
	s := hdlc.Send{Accm: 1<<32 - 1}
	if m.state(0xc021) == 9 {
		s = hdlc.Send{Accm: m.lcpTheirs.Accm, Pfc: m.lcpTheirs.Pfc, Acfc: m.lcpTheirs.Acfc}
	}
	b, e := hdlc.Encode(f, s)
	if e != api.OK {
		panic(e)
	}
	m.out = append(m.out, api.Out{Kind: 1, B: b})
}

func (m *model) packet(n, code, id int, data []byte) {
	b, e := opt.Pack(api.Packet{Code: code, Id: id, Data: data})
	if e != api.OK {
		panic(e)
	}
	m.frame(api.Frame{Proto: n, Info: b})
}

func (m *model) asked(n int) []api.Option {
	switch n {
	case 0xc021:
		return lcp.Options(m.lcpMine)
	case 0x8021:
		return ipcp.Options(m.ipMine)
	case 0x8057:
		return ipv6cp.Options(m.ip6Mine)
	}
	return ccp.Options(m.ccpMine)
}

func (m *model) ready(n int) {
	switch n {
	case 0xc021:
		m.lcpMine = lcp.Want(m.c, m.magic())
		m.lcpTheirs = lcp.Default()
	case 0x8021:
		m.ipMine = ipcp.Want(m.c)
		m.ipTheirs = ipcp.Opts{Addr: -1, Dns1: -1, Dns2: -1}
	case 0x8057:
		m.ip6Mine = ipv6cp.Want(m.c, m.draw())
		m.ip6Theirs = 0
	case 0x80fd:
		m.ccpMine = ccp.Want(m.c)
		m.ccpTheirs = ccp.Opts{}
	}
	m.reqId[n] = -1
	m.naks[n] = 0
}

// answer is what is answered to a request, and what its options are.
type answer struct {
	code    int
	options []api.Option
	theirs  []api.Option
	echo    api.Packet
}

func (m *model) event(n, event int, p api.Packet, w answer) bool {
	l, e := m.auto[n].Do(event)
	if e != api.OK {
		return false
	}
	m.actions(n, l, p, w)
	return true
}

func (m *model) actions(n int, l []int, p api.Packet, w answer) {
	for _, a := range l {
		switch a {
		case api.AScr:
			m.req[n] = m.asked(n)
			b, _ := opt.Bytes(m.req[n]...)
			m.reqId[n] = m.nextId(n)
			m.packet(n, 1, m.reqId[n], b)
		case api.ASca, api.AScn:
			switch w.code {
			case 2:
				m.naks[n] = 0
				m.theirs(n, w.theirs)
			case 3:
				m.naks[n]++
			case 4:
				m.naks[n] = 0
			}
			b, _ := opt.Bytes(w.options...)
			m.packet(n, w.code, p.Id, b)
		case api.AStr:
			m.packet(n, 5, m.nextId(n), nil)
		case api.ASta:
			m.packet(n, 6, p.Id, nil)
		case api.AScj:
			b, _ := opt.Pack(p)
			m.packet(n, 7, m.nextId(n), b[:min(len(b), m.lcpTheirs.Mru-4)])
		case api.ASer:
			if p.Code == 9 {
				m.packet(n, 10, w.echo.Id, w.echo.Data)
			}
		case api.ATlu:
			m.up(n)
		case api.ATld:
			switch n {
			case 0xc021:
				m.ph.Do(phase.Reneg)
				m.forget()
				for _, k := range m.nets() {
					m.event(k, api.EDown, api.Packet{}, answer{})
				}
			case 0x80fd:
				m.sender, m.receiver = nil, nil
			}
		case api.ATlf:
			if n == 0xc021 {
				m.ph.Do(phase.Finished)
			}
		}
	}
	if auto.Begins(l...) {
		m.due[n] = m.now + m.c.Restart
	}
}

func (m *model) theirs(n int, l []api.Option) {
	switch n {
	case 0xc021:
		m.lcpTheirs, _ = lcp.Read(l)
	case 0x8021:
		m.ipTheirs, _ = ipcp.Read(l)
	case 0x8057:
		m.ip6Theirs, _, _ = ipv6cp.Read(l)
	case 0x80fd:
		m.ccpTheirs, _ = ccp.Read(l)
	}
}

func (m *model) up(n int) {
	switch n {
	case 0xc021:
		m.ph.Open(m.c.Require != 0, m.lcpTheirs.Auth != 0)
		m.waits = 0
		if m.c.EchoEvery != 0 {
			m.echoAt = m.now + m.c.EchoEvery
		}
		if m.ph.At() == phase.Authenticate {
			m.proofs()
		} else if m.ph.At() == phase.Network {
			m.begin()
		}
	case 0x8021:
		bad := ipcp.Done(m.ipMine, m.ipTheirs) != api.OK
		if m.c.Require != 0 && m.ipTheirs.Addr != -1 {
			s, _ := secret.Find(m.l, m.who(), m.c.Name)
			bad = bad || !secret.Allowed(s, m.ipTheirs.Addr)
		}
		if bad {
			m.event(n, api.EClose, api.Packet{}, answer{})
		}
	case 0x8057:
		if ipv6cp.Done(m.ip6Mine, m.ip6Theirs) != api.OK {
			m.event(n, api.EClose, api.Packet{}, answer{})
		}
	case 0x80fd:
		m.sender = ccp.NewSender(m.ccpTheirs)
		o, _ := ccp.Read(m.req[n])
		m.receiver = ccp.NewReceiver(o)
	}
}

func (m *model) begin() {
	for _, n := range m.nets() {
		m.ready(n)
		if m.state(n) == api.SInitial {
			m.event(n, api.EOpen, api.Packet{}, answer{})
		}
		m.event(n, api.EUp, api.Packet{}, answer{})
	}
}

func (m *model) forget() {
	m.papS, m.papP, m.chapJ, m.chapMine, m.eapS, m.eapP = nil, nil, nil, false, nil, nil
	m.theirAt, m.myAt, m.echoAt, m.challengeAt = -1, -1, -1, -1
}

func (m *model) who() string {
	return m.papS.Who() + m.chapJ.Who() + m.eapS.Who()
}

func (m *model) proofs() {
	m.theirTimes, m.myTimes, m.theirDone, m.myDone = 0, 0, false, false
	switch m.c.Require {
	case api.MPap:
		m.papS, _, _ = pap.NewServer(m.c.Name, m.l)
	case api.MChap:
		m.chapJ, _ = chap.New(m.c.Name, m.l)
		q, _ := m.chapJ.Ask(m.nextId(0xc223), m.challenge())
		m.packet(0xc223, q.Code, q.Id, q.Data)
	case api.MEap:
		m.eapS, _, _ = eap.NewServer(m.c.Name, m.l, m.c.MaxConfigure)
		q, _ := m.eapS.Start()
		m.packet(0xc227, q.Code, q.Id, q.Data)
	}
	if m.c.Require != 0 {
		m.theirAt = m.now + m.c.Restart
	}
	switch m.lcpTheirs.Auth {
	case api.MPap:
		s, _ := secret.Find(m.l, m.c.Name, m.c.Remote)
		p, e := pap.NewPeer(m.c.Name, s.Word, m.c.MaxConfigure)
		if e != api.OK {
			m.bad()
			return
		}
		m.papP = p
		q, _, _ := p.Send()
		m.packet(0xc023, q.Code, q.Id, q.Data)
	case api.MChap:
		m.chapMine, m.chapId, m.chapTold = true, -1, true
	case api.MEap:
		m.eapP, _, _ = eap.NewPeer(m.c.Name, m.l)
	}
	if m.lcpTheirs.Auth != 0 {
		m.myAt = m.now + m.c.Restart
	}
}

func (m *model) bad() {
	m.ph.Do(phase.Bad)
	m.event(0xc021, api.EClose, api.Packet{}, answer{})
}

func (m *model) proved(event int) {
	switch {
	case event == phase.Theirs && !m.theirDone:
		m.theirDone, m.theirAt = true, -1
	case event == phase.Mine && !m.myDone:
		m.myDone, m.myAt = true, -1
	default:
		return
	}
	was := m.ph.At()
	m.ph.Do(event)
	if was != phase.Network && m.ph.At() == phase.Network {
		m.begin()
		if m.c.Rechallenge != 0 && m.c.Require > api.MPap {
			m.challengeAt = m.now + m.c.Rechallenge
		}
	}
}

// comes is a frame that comes; false, if it is dropped.
func (m *model) comes(f api.Frame) bool {
	if m.ph.At() == phase.Dead {
		return false
	}
	isIp := f.Proto == 0x21 || f.Proto == 0x57 && m.c.Ipv6
	wire := len(f.Info)
	hasCcp := m.auto[0x80fd] != nil
	if f.Proto == 0xfd && hasCcp {
		if m.state(0x80fd) != 9 {
			return false
		}
		g, e := m.receiver.Take(f)
		if e != api.OK {
			if m.receiver.State() == ccp.Lost {
				q, _ := m.receiver.Ask(m.nextId(0x80fd))
				m.packet(0x80fd, q.Code, q.Id, q.Data)
			}
			return false
		}
		if g.Proto == 0xfd {
			return false
		}
		f = g
		isIp = f.Proto == 0x21 || f.Proto == 0x57 && m.c.Ipv6
	} else if isIp && hasCcp && m.state(0x80fd) == 9 {
		m.receiver.Take(f)
	}
	switch {
	case isIp:
		if m.state(0x8000+f.Proto) != 9 {
			return false
		}
		m.out = append(m.out, api.Out{Kind: 2, B: bytes.Clone(f.Info)})
		m.packets[0]++
		m.bytes[0] += int64(len(f.Info))
		m.wire[0] += int64(wire)
		return true
	case m.auto[f.Proto] != nil || f.Proto == 0xc023 || f.Proto == 0xc223 || f.Proto == 0xc227:
		p, e := opt.Unpack(f.Info)
		if !m.ph.Passes(f.Proto) || e != api.OK {
			return false
		}
		if m.auto[f.Proto] == nil {
			return m.proof(f.Proto, p)
		}
		return m.control(f.Proto, p)
	}
	if m.state(0xc021) == 9 {
		b := append([]byte{byte(f.Proto >> 8), byte(f.Proto)}, f.Info...)
		m.packet(0xc021, 8, m.nextId(0xc021), b[:min(len(b), m.lcpTheirs.Mru-4)])
	}
	return false
}

func (m *model) control(n int, p api.Packet) bool {
	l, bad := opt.Options(p.Data)
	switch p.Code {
	case 1:
		if bad != api.OK {
			return false
		}
		w := answer{theirs: l}
		switch n {
		case 0xc021:
			w.code, w.options = lcp.Judge(m.c, m.lcpMine, l, m.naks[n], m.magic())
		case 0x8021:
			w.code, w.options = ipcp.Judge(m.c, m.give, l, m.naks[n])
		case 0x8057:
			w.code, w.options = ipv6cp.Judge(m.c, m.ip6Mine, l, m.naks[n], m.draw())
		case 0x80fd:
			w.code, w.options = ccp.Judge(m.c, l, m.naks[n])
		}
		if w.code == 2 {
			return m.event(n, api.ERCRP, p, w)
		}
		return m.event(n, api.ERCRM, p, w)
	case 2:
		if m.reqId[n] != p.Id || bad != api.OK || !opt.Same(l, m.req[n]) {
			return false
		}
		return m.event(n, api.ERCA, p, answer{})
	case 3, 4:
		return m.refused(n, p, l, bad)
	case 5:
		return m.event(n, api.ERTR, p, answer{})
	case 6:
		return m.event(n, api.ERTA, p, answer{})
	case 7:
		if len(p.Data) == 0 {
			return false
		}
		if p.Data[0] >= 1 && p.Data[0] <= 6 {
			return m.event(n, api.ERXJM, p, answer{})
		}
		return m.event(n, api.ERXJP, p, answer{})
	}
	switch {
	case n == 0xc021 && p.Code == 8:
		proto, e := lcp.Rejected(p)
		if e != api.OK || m.state(n) != 9 {
			return false
		}
		if proto == n {
			return m.event(n, api.ERXJM, p, answer{})
		}
		if m.auto[proto] != nil {
			m.event(proto, api.ERXJM, p, answer{})
		}
		return m.event(n, api.ERXJP, p, answer{})
	case n == 0xc021 && p.Code >= 9 && p.Code <= 12:
		q, ok, e := lcp.Echo(p, m.lcpMine)
		if e != api.OK || !ok || !m.event(n, api.ERXR, p, answer{echo: q}) {
			return false
		}
		if p.Code == 10 && m.state(n) == 9 {
			m.waits = 0
		}
		return true
	case n == 0x80fd && p.Code == 14:
		if m.state(n) != 9 {
			return false
		}
		q, e := m.sender.Reset(p)
		if e == api.OK {
			m.packet(n, q.Code, q.Id, q.Data)
		}
		return e == api.OK
	case n == 0x80fd && p.Code == 15:
		return m.state(n) == 9 && m.receiver.Ack(p) == api.OK
	}
	return m.event(n, api.ERUC, p, answer{})
}

func (m *model) refused(n int, p api.Packet, l []api.Option, bad api.Errno) bool {
	_, _, e := auto.Next(m.state(n), api.ERCN)
	if m.reqId[n] != p.Id || bad != api.OK || e != api.OK {
		return false
	}
	if fits, _ := opt.Fits(p.Code, m.req[n], l); !fits {
		return false
	}
	can := true
	switch {
	case n == 0xc021 && p.Code == 3:
		m.lcpMine, _ = lcp.Nak(m.c, m.lcpMine, l, m.magic())
	case n == 0xc021:
		m.lcpMine, can = lcp.Reject(m.c, m.lcpMine, l)
	case n == 0x8021 && p.Code == 3:
		m.ipMine, _ = ipcp.Nak(m.c, m.ipMine, l)
	case n == 0x8021:
		m.ipMine, can = ipcp.Reject(m.c, m.ipMine, l)
	case n == 0x8057 && p.Code == 3:
		m.ip6Mine, _ = ipv6cp.Nak(m.ip6Mine, l, m.draw())
	case n == 0x8057:
		m.ip6Mine, can = ipv6cp.Reject(m.ip6Mine, l)
	case p.Code == 3:
		m.ccpMine, _ = ccp.Nak(m.c, m.ccpMine, l)
	default:
		m.ccpMine, can = ccp.Reject(m.c, m.ccpMine, l)
	}
	if !can {
		return m.event(n, api.EClose, p, answer{})
	}
	return m.event(n, api.ERCN, p, answer{})
}

func (m *model) proof(n int, p api.Packet) bool {
	send := func(q api.Packet) { m.packet(n, q.Code, q.Id, q.Data) }
	is := func(good, bad bool, event int) bool {
		if good {
			m.proved(event)
		} else if bad {
			m.bad()
		}
		return true
	}
	switch {
	case n == 0xc023 && p.Code == 1 && m.papS != nil:
		q, _, e := m.papS.Take(p)
		if e != api.OK {
			return false
		}
		send(q)
		return is(m.papS.State() == pap.Accepted, m.papS.State() == pap.Refused, phase.Theirs)
	case n == 0xc023 && (p.Code == 2 || p.Code == 3) && m.papP != nil:
		if _, e := m.papP.Take(p); e != api.OK {
			return false
		}
		return is(m.papP.State() == pap.Accepted, m.papP.State() == pap.Refused, phase.Mine)
	case n == 0xc223 && p.Code == 2 && m.chapJ != nil:
		q, e := m.chapJ.Take(p)
		if e != api.OK {
			return false
		}
		send(q)
		return is(m.chapJ.State() == chap.Passed, m.chapJ.State() == chap.Refused, phase.Theirs)
	case n == 0xc223 && p.Code == 1 && m.chapMine:
		q, e := chap.Answer(p, m.c.Name, m.c.Remote, m.l)
		if e == api.ErrNone {
			return is(false, true, 0)
		}
		if e != api.OK {
			return false
		}
		m.chapId, m.chapTold = p.Id, false
		send(q)
		return true
	case n == 0xc223 && (p.Code == 3 || p.Code == 4) && m.chapMine && !m.chapTold && m.chapId == p.Id:
		m.chapTold = true
		return is(p.Code == 3, p.Code == 4, phase.Mine)
	case n == 0xc227 && p.Code == 2 && m.eapS != nil:
		q, _, e := m.eapS.Take(p, m.challenge())
		if e != api.OK {
			return false
		}
		send(q)
		if s := m.eapS.State(); s == eap.Asking || s == eap.Proving {
			m.theirAt = m.now + m.c.Restart
		}
		return is(m.eapS.State() == eap.Accepted, m.eapS.State() == eap.Refused, phase.Theirs)
	case n == 0xc227 && slices.Contains([]int{1, 3, 4}, p.Code) && m.eapP != nil:
		q, ok, e := m.eapP.Take(p)
		if e != api.OK {
			return false
		}
		if ok {
			send(q)
		}
		return is(m.eapP.State() == eap.Accepted, m.eapP.State() == eap.Refused, phase.Mine)
	}
	return false
}

// isDue does what is due at now.
func (m *model) isDue() {
	for _, n := range m.all() {
		if m.auto[n].Running() && m.due[n] <= m.now {
			l, _ := m.auto[n].Timeout()
			m.actions(n, l, api.Packet{}, answer{})
		}
	}
	if m.theirAt >= 0 && m.theirAt <= m.now {
		m.theirDue()
	}
	if m.myAt >= 0 && m.myAt <= m.now {
		m.myDue()
	}
	if m.echoAt >= 0 && m.echoAt <= m.now && m.state(0xc021) == 9 {
		if m.waits == m.c.EchoFail {
			m.event(0xc021, api.EClose, api.Packet{}, answer{})
		} else {
			q, _ := lcp.Reply(9, m.nextId(0xc021), m.lcpMine.Magic, nil)
			m.packet(0xc021, q.Code, q.Id, q.Data)
			m.waits++
			m.echoAt = m.now + m.c.EchoEvery
		}
	}
	if m.challengeAt >= 0 && m.challengeAt <= m.now && m.ph.At() == phase.Network {
		if m.theirDone {
			m.theirDone, m.theirAt = false, m.now+m.c.Restart
			if m.chapJ != nil {
				q, _ := m.chapJ.Ask(m.nextId(0xc223), m.challenge())
				m.packet(0xc223, q.Code, q.Id, q.Data)
			} else {
				q, _ := m.eapS.Prove(m.challenge())
				m.packet(0xc227, q.Code, q.Id, q.Data)
			}
		}
		m.challengeAt = m.now + m.c.Rechallenge
	}
}

func (m *model) theirDue() {
	m.theirTimes++
	m.theirAt = m.now + m.c.Restart
	switch {
	case m.papS != nil:
		if m.theirTimes == m.c.MaxConfigure {
			m.bad()
		}
	case m.chapJ != nil:
		if m.chapJ.Asked() < m.c.MaxConfigure {
			q, _ := m.chapJ.Again()
			m.packet(0xc223, q.Code, q.Id, q.Data)
		} else {
			m.bad()
		}
	case m.eapS != nil:
		if q, ok, _ := m.eapS.Again(nil); ok {
			m.packet(0xc227, q.Code, q.Id, q.Data)
		} else {
			m.bad()
		}
	}
}

func (m *model) myDue() {
	m.myTimes++
	m.myAt = m.now + m.c.Restart
	if m.papP != nil {
		if q, ok, _ := m.papP.Send(); ok {
			m.packet(0xc023, q.Code, q.Id, q.Data)
		} else {
			m.bad()
		}
	} else if m.myTimes == m.c.MaxConfigure {
		m.bad()
	}
}

// next answers when something is due; -1: nothing is.
func (m *model) next() int64 {
	var l []int64
	for _, n := range m.all() {
		if m.auto[n].Running() {
			l = append(l, m.due[n])
		}
	}
	for _, at := range []int64{m.theirAt, m.myAt, m.echoAt, m.challengeAt} {
		if at >= 0 {
			l = append(l, at)
		}
	}
	if len(l) == 0 {
		return -1
	}
	return max(slices.Min(l), m.now)
}

// call does a call of the link behind what is due; frames are what bytes that are fed come to.
func (m *model) call(name string, now int64, frames []api.Frame, b []byte) ([]api.Out, api.Errno) {
	if now < m.now || now > api.MaxTime {
		return nil, api.ErrArg
	}
	dead := m.ph.At() == phase.Dead
	net := 0
	if len(b) > 0 && b[0]>>4 == 4 {
		net = 0x21
	} else if len(b) > 0 && b[0]>>4 == 6 {
		net = 0x57
	}
	switch {
	case name == "open" && !dead, name == "feed" && dead:
		return nil, api.ErrState
	case name == "send" && net == 0:
		return nil, api.ErrIp
	case name == "send" && m.state(0x8000+net) != 9:
		return nil, api.ErrState
	case name == "send" && len(b) > m.lcpTheirs.Mru:
		return nil, api.ErrSize
	}
	m.now, m.out = now, nil
	m.isDue()
	dead = m.ph.At() == phase.Dead
	switch {
	case name == "open":
		m.ph.Do(phase.Up)
		if s := m.state(0xc021); s > api.SStarting {
			m.auto[0xc021] = auto.New(m.c.MaxConfigure, m.c.MaxTerminate)
		}
		m.ready(0xc021)
		if m.state(0xc021) == api.SInitial {
			m.event(0xc021, api.EOpen, api.Packet{}, answer{})
		}
		m.event(0xc021, api.EUp, api.Packet{}, answer{})
	case name == "close" && !dead:
		m.ph.Do(phase.Close)
		m.event(0xc021, api.EClose, api.Packet{}, answer{})
	case name == "lost" && !dead:
		for _, n := range m.all() {
			m.event(n, api.EDown, api.Packet{}, answer{})
		}
		m.forget()
		m.ph.Do(phase.Down)
	case name == "feed":
		for _, f := range frames {
			if !m.comes(f) {
				m.dropped++
			}
		}
	case name == "send" && m.state(0x8000+net) == 9:
		f := api.Frame{Proto: net, Info: b}
		if m.sender != nil {
			f, _ = m.sender.Send(f)
		}
		m.frame(f)
		m.packets[1]++
		m.bytes[1] += int64(len(b))
		m.wire[1] += int64(len(f.Info))
	}
	return m.out, api.OK
}
