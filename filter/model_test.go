package filter

import (
	"bytes"
	"regexp"
	"slices"
	"strconv"
	"strings"

	"tether/api"
)

// draws are numbers that come again in each run.
type draws uint64

func (d *draws) next(below int) int {
	*d = *d*6364136223846793005 + 1442695040888963407
	return int(uint64(*d)>>33) % below
}

func (d *draws) of(l ...string) string {
	return l[d.next(len(l))]
}

// model reads an expression by a stack of what waits, token for token: another way than the program's.
type model struct {
	tokens []string
	places []int
	waits  []string // ( and not that are open, and and or whose second part comes
	done   []int    // the nodes that are nobody's part
	nodes  []Node
}

var (
	tokens  = regexp.MustCompile(`^(?:[A-Za-z0-9./]+|&&|\|\||[\x00-\xff])`)
	digits  = regexp.MustCompile(`^[0-9]+$`)
	decimal = regexp.MustCompile(`^(?:0|[1-9][0-9]{0,4})$`)
	address = regexp.MustCompile(`^(0|[1-9][0-9]{0,2})\.(0|[1-9][0-9]{0,2})\.(0|[1-9][0-9]{0,2})\.(0|[1-9][0-9]{0,2})$`)
	known   = strings.Fields("ip ip6 icmp tcp udp proto host src dst net port less greater not and or ! && || ( )")
)

// latin answers s with each byte as a rune, for the patterns to see bytes.
func latin(s string) string {
	var out []rune
	for _, c := range []byte(s) {
		out = append(out, rune(c))
	}
	return string(out)
}

func newModel(s string) *model {
	var m model
	for at := 0; at < len(s); {
		if s[at] == ' ' || s[at] == '\t' {
			at++
			continue
		}
		token := []rune(tokens.FindString(latin(s[at:])))
		m.tokens = append(m.tokens, s[at:at+len(token)])
		m.places = append(m.places, at)
		at += len(token)
	}
	m.tokens = append(m.tokens, "")
	m.places = append(m.places, len(s))
	return &m
}

func (m *model) read(s string) ([]Node, api.Errno, int) {
	if len(s) > 1024 {
		return nil, api.ErrSize, 0
	}
	due := "part"
	for i := 0; i < len(m.tokens); i++ {
		var e api.Errno
		switch due {
		case "part":
			i, due, e = m.part(i)
		case "join":
			due, e = m.join(m.tokens[i])
		}
		if e != api.OK {
			return nil, e, m.places[i]
		}
	}
	if len(m.nodes) > 200 || len(m.text(len(m.nodes)-1)) > 1024 {
		return nil, api.ErrFull, 0
	}
	return m.nodes, api.OK, 0
}

// wrong answers what is wrong of a token out of its place.
func wrong(token string) api.Errno {
	if token == "" || digits.MatchString(token) || slices.Contains(known, token) {
		return api.ErrExpr
	}
	return api.ErrToken
}

// opened answers how many ( and not are open.
func (m *model) opened() int {
	n := 0
	for _, w := range m.waits {
		if w == "(" || w == "not" {
			n++
		}
	}
	return n
}

// part reads the token i, and those that go with it, where a part must begin.
func (m *model) part(i int) (int, string, api.Errno) {
	token := m.tokens[i]
	dir := 0
	switch token {
	case "(", "not", "!":
		if m.opened() >= 30 {
			return i, "", api.ErrDeep
		}
		if token == "!" {
			token = "not"
		}
		m.waits = append(m.waits, token)
		return i, "part", api.OK
	case "ip", "ip6", "icmp", "tcp", "udp":
		n := map[string]int64{"ip": 4, "ip6": 6, "icmp": 257, "tcp": 262, "udp": 273}[token]
		m.put(Node{Kind: 1, N: n})
		return i, "join", api.OK
	case "src", "dst":
		dir = map[string]int{"src": 1, "dst": 2}[token]
		i++
		token = m.tokens[i]
		if token != "host" && token != "net" && token != "port" {
			return i, "", wrong(token)
		}
	}
	kind, ok := map[string]int{"proto": 1, "host": 2, "net": 3, "port": 4, "less": 5, "greater": 6}[token]
	if !ok {
		return i, "", wrong(token)
	}
	i++
	n, ok := operand(kind, m.tokens[i])
	switch {
	case m.tokens[i] == "":
		return i, "", api.ErrExpr
	case !ok:
		return i, "", api.ErrToken
	}
	n.Dir = dir
	m.put(n)
	return i, "join", api.OK
}

// operand answers the node of that kind with what s says.
func operand(kind int, s string) (Node, bool) {
	out := Node{Kind: kind}
	if kind == 2 || kind == 3 {
		head, tail, cut := strings.Cut(s, "/")
		if cut != (kind == 3) || cut && !decimal.MatchString(tail) || !address.MatchString(head) {
			return out, false
		}
		for _, g := range address.FindStringSubmatch(head)[1:] {
			n, _ := strconv.Atoi(g)
			if n > 255 {
				return out, false
			}
			out.N = out.N*256 + int64(n)
		}
		out.Len, _ = strconv.Atoi(tail)
		return out, out.Len <= 32
	}
	if !decimal.MatchString(s) {
		return out, false
	}
	n, _ := strconv.Atoi(s)
	out.N = int64(n)
	if kind == 1 {
		out.N += 256
		return out, n <= 255
	}
	return out, n <= 65535
}

// put puts a part down, and all that waited for it alone.
func (m *model) put(n Node) {
	m.nodes = append(m.nodes, n)
	m.done = append(m.done, len(m.nodes)-1)
	for len(m.waits) > 0 && m.waits[len(m.waits)-1] == "not" {
		m.reduce()
	}
}

// reduce makes a node of the last one that waits.
func (m *model) reduce() {
	last := len(m.waits) - 1
	w := m.waits[last]
	m.waits = m.waits[:last]
	d := len(m.done)
	switch w {
	case "not", "(":
		kind := map[string]int{"not": 7, "(": 10}[w]
		m.nodes = append(m.nodes, Node{Kind: kind, A: m.done[d-1]})
		m.done = m.done[:d-1]
	default:
		kind := map[string]int{"and": 8, "or": 9}[w]
		m.nodes = append(m.nodes, Node{Kind: kind, A: m.done[d-2], B: m.done[d-1]})
		m.done = m.done[:d-2]
	}
	m.done = append(m.done, len(m.nodes)-1)
}

// join reads a token where a part has ended.
func (m *model) join(token string) (string, api.Errno) {
	switch token {
	case "&&":
		token = "and"
	case "||":
		token = "or"
	}
	stop := map[string][]string{"and": {"(", "or"}, "or": {"("}, ")": {"("}, "": {"("}}[token]
	if stop == nil {
		return "", wrong(token)
	}
	for len(m.waits) > 0 && !slices.Contains(stop, m.waits[len(m.waits)-1]) {
		m.reduce()
	}
	if token == "and" || token == "or" {
		m.waits = append(m.waits, token)
		return "part", api.OK
	}
	if (len(m.waits) > 0) != (token == ")") {
		return "", api.ErrExpr
	}
	if token == ")" {
		m.reduce()
		for len(m.waits) > 0 && m.waits[len(m.waits)-1] == "not" {
			m.reduce()
		}
	}
	return "join", api.OK
}

// text answers the text of the node i.
func (m *model) text(i int) string {
	n := m.nodes[i]
	dir := []string{"", "src ", "dst "}[n.Dir]
	addr := make([]string, 4)
	for i := range addr {
		addr[i] = strconv.Itoa(int(n.N >> (24 - 8*i) & 255))
	}
	a := strings.Join(addr, ".")
	num := strconv.Itoa(int(n.N))
	switch n.Kind {
	case 1:
		if word := map[int64]string{4: "ip", 6: "ip6", 257: "icmp", 262: "tcp", 273: "udp"}[n.N]; word != "" {
			return word
		}
		return "proto " + strconv.Itoa(int(n.N-256))
	case 2:
		return dir + "host " + a
	case 3:
		return dir + "net " + a + "/" + strconv.Itoa(n.Len)
	case 4:
		return dir + "port " + num
	case 5:
		return "less " + num
	case 6:
		return "greater " + num
	case 7:
		return "not " + m.text(n.A)
	case 8:
		return m.text(n.A) + " and " + m.text(n.B)
	case 9:
		return m.text(n.A) + " or " + m.text(n.B)
	}
	return "(" + m.text(n.A) + ")"
}

// drawn answers the text of an expression with about that many tests, as people write them.
func (d *draws) drawn(tests int) string {
	if tests <= 1 {
		return d.test()
	}
	a, b := d.drawn(tests/2), d.drawn(tests-tests/2)
	blank := d.of(" ", "  ", "\t", " \t ")
	switch d.next(6) {
	case 0:
		return a + d.of(blank+"and ", "&&", " && ", "\t&&") + blank + b
	case 1:
		return a + d.of(blank+"or ", "||", " || ", "\t||") + blank + b
	case 2:
		return d.of("not ", "!", "! ", "not\t") + a + blank + d.of("and ", "or ", "&&", "||") + b
	case 3:
		return "(" + a + d.of(" and ", " or ", "&&", "||") + b + d.of("", " ") + ")"
	case 4:
		return d.of("!(", "not (", "not(") + a + ")" + d.of("and ", "or ", "&&", "||") + b
	}
	return a + blank + d.of("and", "or") + "(" + b + ")"
}

func (d *draws) addr() string {
	return "10.0." + strconv.Itoa(d.next(2)) + "." + strconv.Itoa(d.next(3))
}

func (d *draws) test() string {
	dir := d.of("", "", "src ", "dst ")
	switch d.next(7) {
	case 0, 1:
		return d.of("ip", "ip6", "icmp", "tcp", "udp")
	case 2:
		return "proto " + d.of("0", "1", "6", "17", "58", "99", "255")
	case 3:
		return dir + "host " + d.addr()
	case 4:
		return dir + "net " + d.addr() + "/" + strconv.Itoa(d.next(33))
	case 5:
		return dir + "port " + strconv.Itoa(d.next(4)*80)
	}
	return d.of("less ", "greater ") + strconv.Itoa(d.next(70))
}

// spoiled answers s with some bytes or words of it changed.
func (d *draws) spoiled(s string) string {
	b := []byte(s)
	for range 1 + d.next(3) {
		at := d.next(len(b) + 1)
		switch d.next(3) {
		case 0:
			b = slices.Insert(b, at, []byte(d.of("(", ")", "!", "&", "|", "&&", "7", "0", ".", "/", " ", "a", "-", "\x80", "\n", " and ", " or", " not ", " src ", " port ", " 99 ", " xyz "))...)
		case 1:
			b = slices.Delete(b, at, min(at+1+d.next(3), len(b)))
		case 2:
			fields := bytes.Fields(b)
			if len(fields) > 1 {
				i := d.next(len(fields) - 1)
				fields[i], fields[i+1] = fields[i+1], fields[i]
				b = bytes.Join(fields, []byte(" "))
			}
		}
	}
	return string(b)
}
