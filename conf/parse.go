package conf

import (
	"errors"
	"slices"
	"strings"

	"tether/api"
	"tether/spell"
)

// What can be wrong of a line.
var (
	errLine  = errors.New("a line that can not be read")
	errWord  = errors.New("no such word")
	errArg   = errors.New("fewer values than it needs, or more")
	errValue = errors.New("a value that can not be")
)

// Parse answers the configuration of a file, or its first line at fault.
func Parse(s string) (api.Conf, api.Errno, int) {
	return Over(Default(), s)
}

// Over answers the configuration of a file on top of another one, or the file's first line at fault.
func Over(c api.Conf, s string) (api.Conf, api.Errno, int) {
	if e, _ := Right(c); e != api.OK {
		return api.Conf{}, e, -1
	}
	if len(s) > api.MaxText {
		return api.Conf{}, api.ErrSize, -1
	}
	c.Accept = slices.Clone(c.Accept)
	if err := read(s, table(&c)); err != nil {
		e, at := told(err)
		return api.Conf{}, e, at
	}
	return c, api.OK, 0
}

// table answers the options that set c, by their words.
func table(c *api.Conf) map[string]option {
	all := parts(c)
	out := make(map[string]option, 2*len(all))
	for _, p := range all {
		for _, o := range p.options {
			out[o.word] = o
		}
	}
	return out
}

// read takes the lines of s, up to the first one at fault.
func read(s string, table map[string]option) (err error) {
	at := 0
	defer func() {
		if err != nil {
			err = &spell.Fault{Line: at, What: err}
		}
	}()
	for line := range strings.SplitSeq(s, "\n") {
		if err := readLine(line, table); err != nil {
			return err
		}
		at++
	}
	return nil
}

func readLine(line string, table map[string]option) error {
	words, e := Words(line)
	if e != api.OK {
		return errLine
	}
	if len(words) == 0 {
		return nil
	}
	o, ok := table[words[0]]
	if !ok && strings.Contains(words[0], ":") {
		o, ok = table[ends]
	}
	switch values := len(words) - 1; {
	case !ok:
		return errWord
	case values < o.least || values > o.most:
		return errArg
	case !o.set(words):
		return errValue
	}
	return nil
}

// told answers an error's number, and the line that is at fault.
func told(err error) (api.Errno, int) {
	at := 0
	var f *spell.Fault
	if errors.As(err, &f) {
		at = f.Line
	}
	switch {
	case errors.Is(err, errLine):
		return api.ErrLine, at
	case errors.Is(err, errWord):
		return api.ErrWord, at
	case errors.Is(err, errArg):
		return api.ErrArg, at
	}
	return api.ErrValue, at
}
