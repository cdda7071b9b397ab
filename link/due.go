package link

// deadline is a time, if it is set.
type deadline struct {
	at  int64
	set bool
}

// await sets it to a span behind now.
func (d *deadline) await(now, span int64) {
	*d = deadline{now + span, true}
}

// stop takes it away.
func (d *deadline) stop() {
	*d = deadline{}
}

// come tells whether it has come.
func (d deadline) come(now int64) bool {
	return d.set && d.at <= now
}

// doDue does what is due now, each once. What goes ahead may take away what stands behind it: each is asked when its turn comes.
func (l *Link) doDue() {
	for _, p := range l.protocols() {
		if p.timer().come(l.now) {
			p.timeout()
		}
	}
	if l.theirs != nil && l.theirs.come(l.now) {
		l.tryAgain(&l.theirs.proof)
	}
	if l.mine != nil && l.mine.come(l.now) {
		l.tryAgain(l.mine)
	}
	if l.lcp.echo.come(l.now) {
		l.lcp.probe()
	}
	if l.rechallenge.come(l.now) {
		l.askAnew()
	}
}

// deadlines answers all that may be due at a time.
func (l *Link) deadlines() []deadline {
	out := []deadline{l.lcp.echo, l.rechallenge}
	for _, p := range l.protocols() {
		out = append(out, p.timer())
	}
	if l.theirs != nil {
		out = append(out, l.theirs.deadline)
	}
	if l.mine != nil {
		out = append(out, l.mine.deadline)
	}
	return out
}
