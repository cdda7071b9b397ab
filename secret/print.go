package secret

import (
	"strings"

	"tether/api"
)

// Print answers the file of l, or the first secret that can not be.
func Print(l []api.Secret) (string, api.Errno, int) {
	if e, at := check(l); e != api.OK {
		return "", e, at
	}
	var out strings.Builder
	for _, s := range l {
		out.WriteString(lineOf(s))
	}
	return out.String(), api.OK, 0
}

// check tells whether l can be a file's.
func check(l []api.Secret) (api.Errno, int) {
	if len(l) > api.MaxSecrets {
		return api.ErrFull, 0
	}
	for i, s := range l {
		if e := Right(s); e != api.OK {
			return e, i
		}
	}
	return api.OK, 0
}

// lineOf writes a secret that is right.
func lineOf(s api.Secret) string {
	line := quote(s.Client) + " " + quote(s.Server) + " " + quote(s.Word)
	for _, a := range s.Addrs {
		text, _ := AddrText(a)
		line += " " + text
	}
	return line + "\n"
}

// quote writes a word as it is read again.
func quote(word string) string {
	if word != "" && !strings.ContainsAny(word, ends) {
		return word
	}
	return `"` + word + `"`
}
