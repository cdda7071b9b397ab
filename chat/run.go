package chat

import (
	"slices"

	"tether/api"
)

// The states of a run.
const (
	Running = 0
	Done    = 1
	Aborted = 2
	Late    = 3
)

// firstSeconds is how long a wait is ahead of any TIMEOUT.
const firstSeconds = 45

// carriageReturn is sent behind what is sent.
const carriageReturn = 13

// Run is a script that is played.
type Run struct {
	steps []Step
	at    int // the step whose turn it is
	tried int // how many of its Else have had theirs
	begun bool
	now   int64
	state int
	which int // the Abort that ended it
	span  int64
	wait  wait
	heard heard
	said  []byte
	left  []byte
}

// wait is a text that is waited for.
type wait struct {
	on    bool
	text  string
	since int // how many bytes had come when it began
	late  int64
}

// New answers a run of l that has not begun.
func New(l []Step) (*Run, api.Errno) {
	if !right(l) {
		return nil, api.ErrChat
	}
	return &Run{steps: clone(l), span: firstSeconds * 1000}, api.OK
}

// Start begins, and answers what is sent.
func (r *Run) Start(now int64) ([]byte, api.Errno) {
	switch {
	case r == nil:
		return nil, api.ErrNil
	case r.begun:
		return nil, api.ErrState
	case now < 0 || now > api.MaxTime:
		return nil, api.ErrArg
	}
	r.begun, r.now = true, now
	return r.play(), api.OK
}

// Tick tells the time, and answers what is sent.
func (r *Run) Tick(now int64) ([]byte, api.Errno) {
	switch {
	case r == nil:
		return nil, api.ErrNil
	case !r.begun:
		return nil, api.ErrState
	case now < r.now || now > api.MaxTime:
		return nil, api.ErrArg
	}
	r.now = now
	if r.wait.on && now >= r.wait.late {
		return r.retry(), api.OK
	}
	return nil, api.OK
}

// Feed tells the time and bytes that have come, and answers what is sent.
func (r *Run) Feed(now int64, b []byte) ([]byte, api.Errno) {
	out, e := r.Tick(now)
	if e != api.OK {
		return nil, e
	}
bytes:
	for i, c := range b {
		switch r.state {
		case Running:
			out = append(out, r.take(c)...)
		case Done:
			r.left = append(r.left, b[i:]...)
			break bytes
		default:
			break bytes
		}
	}
	return out, api.OK
}

// take hears a byte, and answers what is sent then.
func (r *Run) take(c byte) []byte {
	if n, ok := r.heard.hear(c); ok {
		r.end(Aborted)
		r.which = n
		return nil
	}
	r.heard.report(c)
	if !r.heard.ends(r.wait.text, r.wait.since) {
		return nil
	}
	return r.come()
}

// play goes from step to step, up to the next wait or the end, and answers what is sent.
func (r *Run) play() []byte {
	var out []byte
	for !r.wait.on {
		if r.at == len(r.steps) {
			r.end(Done)
			break
		}
		s := r.steps[r.at]
		if s.Kind == Expect && s.Text != "" {
			r.await(s.Text)
			break
		}
		out = append(out, r.do(s)...)
		r.at++
	}
	return out
}

// do does a step that does not wait, and answers what is sent.
func (r *Run) do(s Step) []byte {
	switch s.Kind {
	case Send:
		return sent(s)
	case Abort:
		r.heard.aborts = append(r.heard.aborts, s.Text)
	case Report:
		r.heard.reports = append(r.heard.reports, report{text: s.Text})
	case Say:
		r.said = append(r.said, s.Text...)
	case Timeout:
		r.span = s.N * 1000
	}
	return nil
}

// sent are the bytes that a Send sends.
func sent(s Step) []byte {
	if s.Cr {
		return append([]byte(s.Text), carriageReturn)
	}
	return []byte(s.Text)
}

func (r *Run) await(text string) {
	r.wait = wait{on: true, text: text, since: r.heard.came, late: r.now + r.span}
}

// come ends the step whose text has come, or one of its Else, and goes on.
func (r *Run) come() []byte {
	r.wait = wait{}
	r.at++
	r.tried = 0
	return r.play()
}

// retry goes on with the Else of a step that is late.
func (r *Run) retry() []byte {
	var out []byte
	others := r.steps[r.at].Else
	for r.tried < len(others) {
		s := others[r.tried]
		r.tried++
		switch {
		case s.Kind == Send:
			out = append(out, sent(s)...)
		case s.Text == "":
			return append(out, r.come()...)
		default:
			r.await(s.Text)
			return out
		}
	}
	r.end(Late)
	return out
}

// end ends the run.
func (r *Run) end(state int) {
	r.state = state
	r.wait = wait{}
}

// State answers where the run is, and which Abort it was.
func (r *Run) State() (int, int) {
	if r == nil {
		return Running, 0
	}
	return r.state, r.which
}

// Deadline answers when the wait is late.
func (r *Run) Deadline() (int64, bool) {
	if r == nil || !r.wait.on {
		return 0, false
	}
	return r.wait.late, true
}

// Said answers all that was said.
func (r *Run) Said() string {
	if r == nil {
		return ""
	}
	return string(r.said)
}

// Left answers the bytes that came behind the end of a run that is done.
func (r *Run) Left() []byte {
	if r == nil {
		return nil
	}
	return slices.Clone(r.left)
}
