package conf

import (
	"slices"
	"strings"

	"tether/api"
)

// Print answers the file that sets what c has other than Default.
func Print(c api.Conf) (string, api.Errno) {
	if e, _ := Right(c); e != api.OK {
		return "", e
	}
	if unprintable(c.Filter) || unprintable(c.Chat) { // names always are
		return "", api.ErrForm
	}
	d := Default()
	usual := parts(&d)
	var out strings.Builder
	for i, p := range parts(&c) {
		lines := p.lines()
		if slices.Equal(lines, usual[i].lines()) {
			continue
		}
		for _, line := range lines {
			if len(line) > api.MaxLine {
				return "", api.ErrSize
			}
			out.WriteString(line + "\n")
		}
	}
	if out.Len() > api.MaxText {
		return "", api.ErrSize
	}
	return out.String(), api.OK
}
