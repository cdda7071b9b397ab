package secret

import (
	"errors"
	"strconv"
	"strings"

	"tether/api"
	"tether/spell"
)

// ends are the signs that a word ends ahead of: a # begins a remark wherever it stands without quotes.
const ends = spell.Blanks + "#"

// errBare: a line without words, which is none of the file's secrets.
var errBare = errors.New("a line without words")

// wrong is an error's number, as an error.
type wrong api.Errno

func (w wrong) Error() string {
	return "error " + strconv.Itoa(int(w))
}

// Parse answers the secrets of a file, or its first line at fault.
func Parse(text string) ([]api.Secret, api.Errno, int) {
	if len(text) > api.MaxText {
		return nil, api.ErrSize, 0
	}
	var r reader
	for line := range strings.SplitSeq(text, "\n") {
		if err := r.take(line); err != nil {
			e, at := told(err)
			return nil, e, at
		}
	}
	if len(r.secrets) > api.MaxSecrets {
		return nil, api.ErrFull, api.MaxSecrets
	}
	return r.secrets, api.OK, 0
}

// told answers an error's number, and the line that is at fault.
func told(err error) (api.Errno, int) {
	var w wrong
	var f *spell.Fault
	if errors.As(err, &w) && errors.As(err, &f) {
		return api.Errno(w), f.Line
	}
	return api.OK, 0
}

// reader is a file that is read line by line.
type reader struct {
	secrets []api.Secret
	lines   int // how many have been read
}

// take reads one more line.
func (r *reader) take(line string) (err error) {
	defer func() { err = r.end(err) }()
	s, err := read(line)
	if err == nil {
		r.secrets = append(r.secrets, s)
	}
	return err
}

// end counts a line that has been read, and tells of a fault where it is.
func (r *reader) end(err error) error {
	at := r.lines
	r.lines++
	if err == nil || errors.Is(err, errBare) {
		return nil
	}
	return &spell.Fault{Line: at, What: err}
}

// read answers the secret of a line.
func read(line string) (api.Secret, error) {
	if len(line) > api.MaxLine {
		return api.Secret{}, wrong(api.ErrSize)
	}
	l, ok := spell.Words(line, ends)
	switch {
	case !ok:
		return api.Secret{}, wrong(api.ErrLine)
	case len(l) == 0:
		return api.Secret{}, errBare
	case len(l) < 3:
		return api.Secret{}, wrong(api.ErrLine)
	}
	return made(l)
}

// made answers the secret that three words and more say.
func made(l []string) (api.Secret, error) {
	s := api.Secret{Client: l[0], Server: l[1], Word: l[2]}
	if e := Right(s); e != api.OK { // ahead of its addresses
		return api.Secret{}, wrong(e)
	}
	for _, word := range l[3:] {
		a, e := Addr(word)
		if e != api.OK {
			return api.Secret{}, wrong(e)
		}
		s.Addrs = append(s.Addrs, a)
	}
	if e := Right(s); e != api.OK {
		return api.Secret{}, wrong(e)
	}
	return s, nil
}
