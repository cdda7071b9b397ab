package secret

import "tether/api"

// anyone stands for every name.
const anyone = "*"

// pair is a client's name and a server's.
type pair struct {
	client, server string
}

// firsts tells of each pair of names, as they stand in l, which line is the first one; lines that are not right are none.
func firsts(l []api.Secret) map[pair]int {
	out := map[pair]int{}
	for i, s := range l {
		p := pair{s.Client, s.Server}
		if _, met := out[p]; !met && Right(s) == api.OK {
			out[p] = i
		}
	}
	return out
}

// best answers the line of l for a client and a server, where first tells the first ones of l.
func best(l []api.Secret, first map[pair]int, client, server string) (api.Secret, bool) {
	if client == anyone || server == anyone { // which are nobody's names
		return api.Secret{}, false
	}
	for _, p := range []pair{{client, server}, {client, anyone}, {anyone, server}, {anyone, anyone}} {
		if i, met := first[p]; met {
			return clone(l[i]), true
		}
	}
	return api.Secret{}, false
}

// Find answers the best line of l for a client and a server.
func Find(l []api.Secret, client, server string) (api.Secret, bool) {
	return best(l, firsts(l), client, server)
}

// Table: secrets that are right.
type Table struct {
	lines []api.Secret
	first map[pair]int // of each pair of names the first line's number
}

// New answers a table of l, or the first secret that can not be.
func New(l []api.Secret) (*Table, api.Errno, int) {
	if e, at := check(l); e != api.OK {
		return nil, e, at
	}
	t := &Table{first: firsts(l)}
	for _, s := range l {
		t.lines = append(t.lines, clone(s))
	}
	return t, api.OK, 0
}

// Find answers the best line for a client and a server.
func (t *Table) Find(client, server string) (api.Secret, bool) {
	if t == nil {
		return api.Secret{}, false
	}
	return best(t.lines, t.first, client, server)
}

// Check tells whether a client's word for a server is the best line's.
func (t *Table) Check(client, server, word string) api.Errno {
	if t == nil {
		return api.ErrNil
	}
	s, ok := t.Find(client, server)
	switch {
	case !ok:
		return api.ErrNone
	case s.Word == "" || s.Word != word:
		return api.ErrAuth
	}
	return api.OK
}

// Len tells how many secrets there are.
func (t *Table) Len() int {
	if t == nil {
		return 0
	}
	return len(t.lines)
}
