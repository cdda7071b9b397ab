package chat

import (
	"strconv"
	"strings"

	"tether/api"
)

// blanks stand between words.
const blanks = " \t\n\r"

// maxSeconds is the longest wait that TIMEOUT may ask for, and maxDigits how many digits it may have.
const (
	maxSeconds = 3600
	maxDigits  = 4
)

// Parse answers the steps of a script, or the number of its first word that can not be.
func Parse(s string) ([]Step, api.Errno, int) {
	if len(s) > api.MaxText {
		return nil, api.ErrSize, 0
	}
	r := reader{rest: s}
	var l []Step
	for r.more() {
		steps, ok := r.turn()
		if !ok {
			return nil, api.ErrChat, r.begun - 1
		}
		l = append(l, steps...)
	}
	if count(l) > api.MaxSteps {
		return nil, api.ErrFull, 0
	}
	return l, api.OK, 0
}

// reader goes through a script word by word.
type reader struct {
	rest  string
	begun int // how many words have begun
}

// word is one of a script: what it says, without its quotes.
type word struct {
	body   string
	quoted bool
}

// more tells whether there is another word.
func (r *reader) more() bool {
	r.rest = strings.TrimLeft(r.rest, blanks)
	return r.rest != ""
}

// word reads the word that more has told of.
func (r *reader) word() (word, bool) {
	r.begun++
	if r.rest[0] == '"' || r.rest[0] == '\'' {
		return r.quoted()
	}
	end := strings.IndexAny(r.rest, blanks)
	if end < 0 {
		end = len(r.rest)
	}
	w := word{body: r.rest[:end]}
	r.rest = r.rest[end:]
	return w, true
}

// quoted reads a word that begins with a quote.
func (r *reader) quoted() (word, bool) {
	end := 1
scan:
	for end < len(r.rest) {
		switch r.rest[end] {
		case r.rest[0]:
			break scan
		case '\\':
			end += 2
		default:
			end++
		}
	}
	if end >= len(r.rest) {
		return word{}, false
	}
	w := word{body: r.rest[1:end], quoted: true}
	r.rest = r.rest[end+1:]
	return w, r.rest == "" || strings.IndexByte(blanks, r.rest[0]) >= 0
}

// turn reads a word, and the one behind it that belongs to it.
func (r *reader) turn() ([]Step, bool) {
	w, ok := r.word()
	if !ok {
		return nil, false
	}
	kind := kindOf(w)
	if kind == Expect {
		return r.expectation(w)
	}
	if !r.more() {
		return nil, false
	}
	s, ok := r.step(kind)
	return []Step{s}, ok
}

// kindOf tells what a word at its turn begins.
func kindOf(w word) int {
	if w.quoted {
		return Expect
	}
	switch w.body {
	case "ABORT":
		return Abort
	case "REPORT":
		return Report
	case "SAY":
		return Say
	case "TIMEOUT":
		return Timeout
	}
	return Expect
}

// expectation answers the step that w is, and that of what is sent behind it.
func (r *reader) expectation(w word) ([]Step, bool) {
	raw := parts(w.body)
	first, ok := made(Expect, raw[0])
	if !ok {
		return nil, false
	}
	for i, one := range raw[1:] {
		s, ok := made(turnOf(i), one)
		if !ok {
			return nil, false
		}
		first.Else = append(first.Else, s)
	}
	if !r.more() {
		return []Step{first}, true
	}
	s, ok := r.step(Send)
	return []Step{first, s}, ok
}

// step reads the word that a step of that kind has.
func (r *reader) step(kind int) (Step, bool) {
	w, ok := r.word()
	switch {
	case !ok:
		return Step{}, false
	case kind == Timeout:
		return timeout(w)
	}
	return made(kind, w.body)
}

// made answers the step of that kind whose text is spelt so.
func made(kind int, raw string) (Step, bool) {
	text, rest := decode(raw)
	s := Step{Kind: kind, Text: text, Cr: kind == Send && rest == ""}
	if kind == Send && rest == noCr {
		rest = ""
	}
	return s, rest == "" && fits(s)
}

// timeout answers the step whose seconds w has.
func timeout(w word) (Step, bool) {
	if w.quoted || len(w.body) > maxDigits {
		return Step{}, false
	}
	n, err := strconv.ParseUint(w.body, 10, 32)
	s := Step{Kind: Timeout, N: int64(n)}
	return s, err == nil && fits(s)
}
