package policy

// Why a link ended, or is to end.
const (
	failed  = "failed"
	lost    = "lost"
	idle    = "idle"
	session = "session"
	down    = "down"
)

// deed answers what is to be done.
type deed func() []int

// deeds are what the calls do in a state; nil: nothing.
type deeds struct {
	start    deed
	packet   deed // that matches
	up       deed
	down     deed
	linkUp   deed
	linkDown deed
}

// deeds answers what the calls do now.
func (p *Policy) deeds() deeds {
	switch p.state {
	case Rest:
		return deeds{start: p.unless(p.dial), packet: p.onDemand(p.dial), up: p.redial, down: p.drop}
	case Holds:
		return deeds{packet: p.onDemand(p.await), up: p.retry, down: p.drop}
	case Dials:
		return deeds{down: p.hangDown, linkUp: p.run, linkDown: p.missed}
	case Runs:
		return deeds{packet: p.use, down: p.hangDown, linkDown: p.lose}
	case Ends:
		return deeds{packet: p.onDemand(p.await), up: p.retry, down: p.drop, linkDown: p.end}
	}
	return deeds{up: p.revive, down: p.drop}
}

// onDemand answers what to do if links are dialled on demand.
func (p *Policy) onDemand(do deed) deed {
	if p.terms.demand {
		return do
	}
	return nil
}

// unless answers what to do if they are not.
func (p *Policy) unless(do deed) deed {
	if p.terms.demand {
		return nil
	}
	return do
}

// dial asks for a link, and makes it.
func (p *Policy) dial() []int {
	p.want()
	p.state = Dials
	return []int{Dial}
}

// redial makes a link, whatever failed.
func (p *Policy) redial() []int {
	p.urge()
	return p.dial()
}

// await asks for a link, which is made when it can be.
func (p *Policy) await() []int {
	p.want()
	return nil
}

// retry asks for one, whatever failed.
func (p *Policy) retry() []int {
	p.urge()
	return nil
}

// revive asks for one though it had been given up.
func (p *Policy) revive() []int {
	p.urge()
	p.state = Holds
	return p.settle()
}

// drop asks for no link.
func (p *Policy) drop() []int {
	p.forgo()
	return nil
}

// run begins the time of a link.
func (p *Policy) run() []int {
	p.succeed()
	p.state = Runs
	p.ran, p.used = p.now, p.now
	return nil
}

// use begins the idle time anew.
func (p *Policy) use() []int {
	p.used = p.now
	return nil
}

// hang hangs up; what was wanted ahead of that is forgotten.
func (p *Policy) hang(why string) []int {
	p.forgo()
	p.state, p.why = Ends, why
	return []int{Hang}
}

func (p *Policy) hangDown() []int {
	return p.hang(down)
}

func (p *Policy) hangIdle() []int {
	return p.hang(idle)
}

func (p *Policy) hangSession() []int {
	return p.hang(session)
}

// missed counts a link that could not be made, and gives up, if there were too many; else it goes on to be wanted.
func (p *Policy) missed() []int {
	p.fail()
	if p.terms.maxfail != 0 && p.failures >= p.terms.maxfail {
		p.forgo()
		p.state = Over
		p.ended = p.now
		return nil
	}
	return p.hold()
}

// lose takes it that a link is lost.
func (p *Policy) lose() []int {
	p.why = lost
	p.wanted = p.terms.persist
	return p.hold()
}

// end takes it that a link was hung up.
func (p *Policy) end() []int {
	if p.terms.persist && p.why != down {
		p.want()
	}
	return p.hold()
}

// hold waits from now on, if there is a hold-off.
func (p *Policy) hold() []int {
	p.state = Holds
	p.ended = p.now
	return p.settle()
}
