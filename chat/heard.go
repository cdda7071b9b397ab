package chat

import (
	"iter"

	"tether/api"
)

// maxReport is how many bytes a report has at most.
const maxReport = 80

// heard is what has come since a run began, and what is listened for in it.
type heard struct {
	last    []byte // the end of it: no text is longer than MaxLine
	came    int    // how many bytes all of it are
	aborts  []string
	reports []report
}

// report is a Report: what came behind its text.
type report struct {
	text  string
	begun bool
	told  []byte
	whole bool
}

// hear takes a byte, and answers the first Abort whose text it ends.
func (h *heard) hear(c byte) (int, bool) {
	if len(h.last) == 2*api.MaxLine {
		h.last = append(h.last[:0], h.last[api.MaxLine:]...)
	}
	h.last = append(h.last, c)
	h.came++
	for i, text := range h.aborts {
		if h.ends(text, 0) {
			return i, true
		}
	}
	return 0, false
}

// ends tells whether the bytes that came behind the first since ones end with text.
func (h *heard) ends(text string, since int) bool {
	return h.came-since >= len(text) && string(h.last[len(h.last)-len(text):]) == text
}

// report gives the byte that was heard last to the Reports.
func (h *heard) report(c byte) {
	for i := range h.reports {
		r := &h.reports[i]
		switch {
		case r.whole:
		case r.begun:
			r.take(c)
		default:
			r.begun = h.ends(r.text, 0)
		}
	}
}

// take takes a byte behind the text.
func (r *report) take(c byte) {
	if c < 32 {
		r.whole = true
		return
	}
	r.told = append(r.told, c)
	r.whole = len(r.told) == maxReport
}

// Reports goes through the texts and reports of the Reports whose report is whole.
func (r *Run) Reports() iter.Seq2[string, string] {
	var l []report
	if r != nil {
		for _, one := range r.heard.reports {
			if one.whole {
				l = append(l, one)
			}
		}
	}
	return func(yield func(string, string) bool) {
		for _, one := range l {
			if !yield(one.text, string(one.told)) {
				return
			}
		}
	}
}
