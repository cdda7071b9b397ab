package chat

import (
	"strconv"
	"strings"

	"tether/api"
)

// Print answers a script that has those steps.
func Print(l []Step) (string, api.Errno) {
	if !right(l) {
		return "", api.ErrChat
	}
	words := make([]string, len(l))
	for i, s := range l {
		words[i] = wordsOf(s)
	}
	text := strings.Join(words, " ")
	if len(text) > api.MaxText {
		return "", api.ErrSize
	}
	return text, api.OK
}

// right tells whether l can be a script's.
func right(l []Step) bool {
	if count(l) > api.MaxSteps {
		return false
	}
	for i, s := range l {
		// The word behind an expectation is what is sent, and no other word is.
		if (s.Kind == Send) != (i > 0 && l[i-1].Kind == Expect) || !fits(s) {
			return false
		}
	}
	return true
}

// fits tells whether s has what its kind has, and nothing else.
func fits(s Step) bool {
	want := plain{kind: s.Kind, text: s.Text}
	switch s.Kind {
	case Expect:
		return bare(s) == want && len(s.Text) <= api.MaxLine && alternate(s.Else)
	case Send:
		want.cr = s.Cr
	case Abort, Report:
		if s.Text == "" {
			return false
		}
	case Timeout:
		want = plain{kind: Timeout, n: min(max(s.N, 1), maxSeconds)}
	case Say:
	default:
		return false
	}
	return bare(s) == want && len(s.Text) <= api.MaxLine && len(s.Else) == 0
}

// alternate tells whether l can be an Else: what is sent, what is expected, and so on.
func alternate(l []Step) bool {
	for i, s := range l {
		if s.Kind != turnOf(i) || len(s.Else) != 0 || !fits(s) {
			return false
		}
	}
	return true
}

// turnOf is the kind of an Else's step at a place.
func turnOf(i int) int {
	if i%2 == 0 {
		return Send
	}
	return Expect
}

// wordsOf answers the word or the two of a step.
func wordsOf(s Step) string {
	switch s.Kind {
	case Abort:
		return "ABORT " + quote(s.Text)
	case Report:
		return "REPORT " + quote(s.Text)
	case Say:
		return "SAY " + quote(s.Text)
	case Timeout:
		return "TIMEOUT " + strconv.FormatInt(s.N, 10)
	}
	body := part(s)
	for _, other := range s.Else {
		body += "-" + part(other)
	}
	return `"` + body + `"`
}

func quote(text string) string {
	return `"` + encode(text) + `"`
}

// part spells what is expected, or sent.
func part(s Step) string {
	if s.Kind == Send && !s.Cr {
		return encode(s.Text) + noCr
	}
	return encode(s.Text)
}
