package spell

import "strings"

// Blanks part the words of a line.
const Blanks = " \t\r"

// remark begins what is not read of a line.
const remark = '#'

// Words parts a line: blanks stand between its words, a # at the beginning of one ends the line, and a word ends ahead of each byte of ends; false, if it can not be parted. A word in quotes may have any bytes, with \ ahead of " and \.
func Words(line, ends string) ([]string, bool) {
	var out []string
	for {
		line = strings.TrimLeft(line, Blanks)
		if line == "" || line[0] == remark {
			return out, true
		}
		cut := plain
		if line[0] == '"' {
			cut = quoted
		}
		word, behind, ok := cut(line, ends)
		if !ok {
			return nil, false
		}
		out = append(out, word)
		line = behind
	}
}

// plain reads the word without quotes that s begins with, and answers what stands behind it.
func plain(s, ends string) (word, behind string, ok bool) {
	word = s
	if end := strings.IndexAny(s, ends); end >= 0 {
		word, behind = s[:end], s[end:]
	}
	return word, behind, !strings.Contains(word, `"`)
}

// quoted reads the word in quotes that s begins with, and answers what stands behind it.
func quoted(s, ends string) (word, behind string, ok bool) {
	var out []byte
	for i := 1; i < len(s); i++ {
		switch s[i] {
		case '"':
			behind = s[i+1:]
			return string(out), behind, behind == "" || strings.Contains(ends, behind[:1])
		case '\\':
			i++
			if i == len(s) || s[i] != '"' && s[i] != '\\' {
				return "", "", false
			}
		}
		out = append(out, s[i])
	}
	return "", "", false
}
