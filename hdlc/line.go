package hdlc

import (
	"bytes"
	"iter"

	"tether/api"
	"tether/fcs"
)

// What a frame's bytes are besides its information: an address, a control, a number of two bytes, a sum.
const around = 6

// shortest is how many bytes a frame has at least.
const shortest = 4

// Counts: frames that were told, and those that were not.
type Counts struct {
	Frames int64
	Runts  int64
	Giants int64
	Sums   int64
	Aborts int64
	Wrong  int64
}

// Line: bytes of a line that become frames.
type Line struct {
	kinds   [256]kind
	longest int // how many bytes a frame has at most
	pfc     bool
	acfc    bool
	held    []byte // what has come since the last flag, escapes undone; of what is too long one byte more than the longest
	turns   bool   // the next byte has its bit turned
	open    bool   // the last byte that came was an escape, whether it was one itself or was escaped
	counts  Counts
}

// New answers a line between frames, with the longest information, the bytes that are dropped, and whether short numbers and addresses are taken; nil, if they can not be.
func New(mru int, accm int64, pfc, acfc bool) *Line {
	if mru < api.MinMru || mru > api.MaxMru || !mapRight(accm) {
		return nil
	}
	return &Line{kinds: kindsOf(accm), longest: mru + around, pfc: pfc, acfc: acfc}
}

// Feed answers the frames that end in b.
func (l *Line) Feed(b []byte) []api.Frame {
	var out []api.Frame
	for f := range l.each(b) {
		out = append(out, f)
	}
	return out
}

// Each answers the same frames one by one, and takes b's bytes as it goes on.
func (l *Line) Each(b []byte) iter.Seq[api.Frame] {
	return l.each(bytes.Clone(b))
}

// each passes over a byte ahead of telling the frame that it ends, so that who leaves, or asks again in between, finds the bytes behind.
func (l *Line) each(b []byte) iter.Seq[api.Frame] {
	if l == nil {
		b = nil
	}
	return func(yield func(api.Frame) bool) {
	scan:
		for len(b) > 0 {
			c := b[0]
			b = b[1:]
			switch l.kinds[c] {
			case named:
				continue scan
			case flag:
				if f, whole := l.end(); whole && !yield(f) {
					break scan
				}
			default:
				l.take(c)
			}
		}
	}
}

// Counts tells what has come since New.
func (l *Line) Counts() Counts {
	if l == nil {
		return Counts{}
	}
	return l.counts
}

// Reset forgets what has come since the last flag.
func (l *Line) Reset() {
	if l == nil {
		return
	}
	l.held = l.held[:0]
	l.turns = false
	l.open = false
}

// take keeps a byte that is no flag.
func (l *Line) take(c byte) {
	l.open = c == escapeByte
	if l.open && !l.turns {
		l.turns = true
		return
	}
	if l.turns {
		c ^= turn
		l.turns = false
	}
	if len(l.held) <= l.longest {
		l.held = append(l.held, c)
	}
}

// end answers the frame that a flag ends, if what has come is one.
func (l *Line) end() (api.Frame, bool) {
	held, open := l.held, l.open
	l.Reset()
	switch {
	case open:
		l.counts.Aborts++
	case len(held) == 0: // flags may stand one behind the other
	case len(held) < shortest:
		l.counts.Runts++
	case len(held) > l.longest:
		l.counts.Giants++
	default:
		return l.judge(held)
	}
	return api.Frame{}, false
}

// judge answers the frame of a body of a right length.
func (l *Line) judge(held []byte) (api.Frame, bool) {
	body, e := fcs.Cut16(held)
	if e != api.OK {
		l.counts.Sums++
		return api.Frame{}, false
	}
	f, e := Parse(body, l.pfc, l.acfc)
	if e != api.OK {
		l.counts.Wrong++
		return api.Frame{}, false
	}
	l.counts.Frames++
	return f, true
}
