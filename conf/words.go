package conf

import (
	"slices"
	"strings"

	"tether/api"
	"tether/spell"
)

// Words answers the words of a line.
func Words(s string) ([]string, api.Errno) {
	if len(s) > api.MaxLine || strings.Contains(s, "\n") {
		return nil, api.ErrLine
	}
	words, ok := spell.Words(s, spell.Blanks)
	if !ok || slices.ContainsFunc(words, unprintable) {
		return nil, api.ErrLine
	}
	return words, api.OK
}

// unprintable tells whether s has a byte below 32 but 9.
func unprintable(s string) bool {
	for i := range len(s) {
		if s[i] < 32 && s[i] != '\t' {
			return true
		}
	}
	return false
}

// Quote answers s as a word is written.
func Quote(s string) (string, api.Errno) {
	if unprintable(s) {
		return "", api.ErrForm
	}
	if s != "" && s[0] != '#' && !strings.ContainsAny(s, " \t\"") {
		return s, api.OK
	}
	inside := strings.ReplaceAll(s, `\`, `\\`)
	return `"` + strings.ReplaceAll(inside, `"`, `\"`) + `"`, api.OK
}
