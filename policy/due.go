package policy

// deadline is when something is due, and what it does.
type deadline struct {
	at int64
	do deed
}

// deadlines answers what is due at a time, by what is known now; what goes ahead stands first.
func (p *Policy) deadlines() []deadline {
	var l []deadline
	switch p.state {
	case Runs:
		if p.terms.session != 0 {
			l = append(l, deadline{p.ran + p.terms.session, p.hangSession})
		}
		if p.terms.idle != 0 {
			l = append(l, deadline{p.used + p.terms.idle, p.hangIdle})
		}
	case Holds:
		l = append(l, deadline{p.ended + p.terms.holdoff, p.released})
	}
	return l
}

// settle does what is due now: of several things the one that goes ahead.
func (p *Policy) settle() []int {
	var out []int
due:
	for _, d := range p.deadlines() {
		if d.at <= p.now {
			out = d.do()
			break due
		}
	}
	return out
}

// released ends the hold-off.
func (p *Policy) released() []int {
	if p.wanted {
		return p.dial()
	}
	p.state = Rest
	return nil
}
