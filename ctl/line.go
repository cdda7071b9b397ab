package ctl

import (
	"strconv"
	"strings"

	"tether/api"
)

const blanks = " \t"

// command is a line of the table: a word, how many words stand behind it, whether all that follows these does, too, and what it does with them.
type command struct {
	word  string
	words int
	rest  bool
	does  func(d *Desk, given []string) reply
}

func commands() []command {
	return []command{
		{"up", 0, false, (*Desk).up},
		{"down", 0, false, (*Desk).down},
		{"status", 0, false, (*Desk).status},
		{"why", 0, false, (*Desk).why},
		{"addrs", 0, false, (*Desk).addrs},
		{"who", 0, false, (*Desk).who},
		{"counters", 0, false, (*Desk).counters},
		{"rates", 0, false, (*Desk).rates},
		{"queue", 0, false, (*Desk).queue},
		{"failures", 0, false, (*Desk).failures},
		{"now", 0, false, (*Desk).now},
		{"next", 0, false, (*Desk).next},
		{"conf", 0, false, (*Desk).conf},
		{"filter", 0, true, (*Desk).filter},
		{"tells", 1, true, (*Desk).tells},
		{"chat", 0, true, (*Desk).chat},
		{"secret", 0, true, (*Desk).secret},
		{"options", 0, true, (*Desk).options},
		{"md5", 1, false, (*Desk).md5},
		{"fcs", 1, false, (*Desk).fcs},
		{"frame", 1, false, (*Desk).frame},
	}
}

// commandOf answers the command of a word.
func commandOf(word string) (command, bool) {
	for _, c := range commands() {
		if c.word == word {
			return c, true
		}
	}
	return command{}, false
}

// given answers what a command is given by the text behind its word; false, if that is too little, or too much.
func (c command) given(text string) ([]string, bool) {
	var out []string
	for range c.words {
		word, behind := cut(text)
		if word == "" {
			return nil, false
		}
		out = append(out, word)
		text = behind
	}
	rest := strings.Trim(text, blanks)
	if c.rest {
		out = append(out, rest)
	}
	return out, c.rest == (rest != "")
}

// cut answers the first word of a text, and what stands behind.
func cut(text string) (word, behind string) {
	text = strings.TrimLeft(text, blanks)
	if at := strings.IndexAny(text, blanks); at >= 0 {
		return text[:at], text[at:]
	}
	return text, ""
}

// reply is the answer to a line, and what the daemon put out by it.
type reply struct {
	text string
	out  []api.Out
}

// Line does what a line of control asks; it answers that line's answer, and what is put out.
func (d *Desk) Line(text string) (string, []api.Out) {
	r := d.answer(text)
	return r.text, r.out
}

// answer answers a line.
func (d *Desk) answer(text string) reply {
	switch {
	case !d.made():
		return wrong(api.ErrNil)
	case len(text) > api.MaxLine:
		return wrong(api.ErrSize)
	}
	word, behind := cut(text)
	if word == "" {
		return reply{}
	}
	c, is := commandOf(word)
	if !is {
		return wrong(api.ErrWord)
	}
	given, fit := c.given(behind)
	if !fit {
		return wrong(api.ErrArg)
	}
	return c.does(d, given)
}

// tell answers parts with a blank between.
func tell(parts ...string) reply {
	return reply{text: strings.Join(parts, " ")}
}

// wrong answers an error.
func wrong(e api.Errno) reply {
	return tell("error", number(int64(e)))
}

// wrongAt answers an error, and its place.
func wrongAt(e api.Errno, at int) reply {
	return tell(wrong(e).text, "at", number(int64(at)))
}

// number answers decimal digits.
func number(n int64) string {
	return strconv.FormatInt(n, 10)
}
