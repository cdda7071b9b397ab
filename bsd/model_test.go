package bsd

import (
	"bytes"
	"maps"
	"strings"
	"testing"

	"tether/api"
)

// draws is a chain of numbers that are the same at each run.
type draws uint64

func (d *draws) next(below int) int {
	*d = *d*6364136223846793005 + 1442695040888963407
	return int(uint64(*d)>>33) % below
}

// text answers n bytes of few or many kinds, some of which stand there more than once in a row.
func (d *draws) text(n int) []byte {
	kinds := 1 << d.next(9)
	out := make([]byte, 0, n)
	for len(out) < n {
		if len(out) > 0 && d.next(8) == 0 {
			back := 1 + d.next(len(out))
			for range min(1+d.next(1<<d.next(10)), n-len(out)) {
				out = append(out, out[len(out)-back])
			}
			continue
		}
		out = append(out, byte(d.next(kinds)))
	}
	return out
}

// apart answers n bytes, at most 65537, of which no two one behind the other stand there twice: no longer string is met again.
func apart(n int) []byte {
	var out []byte
	for i := range 256 {
		out = append(out, byte(i))
		for j := i + 1; j < 256; j++ {
			out = append(out, byte(i), byte(j))
		}
	}
	return append(out, 0)[:n]
}

// num is a number as n bits, the highest one first.
func num(v, n int) string {
	var out strings.Builder
	for n > 0 {
		n--
		out.WriteByte('0' + byte(v>>n&1))
	}
	return out.String()
}

// data are the bytes of bits, up to the next byte with bits 0.
func data(parts ...string) []byte {
	bits := strings.Join(parts, "")
	out := make([]byte, (len(bits)+7)/8)
	for i, c := range bits {
		out[i/8] |= byte(c-'0') << (7 - i%8)
	}
	return out
}

// bitsOf are the bits of bytes.
func bitsOf(b []byte) string {
	var out strings.Builder
	for _, c := range b {
		out.WriteString(num(int(c), 8))
	}
	return out.String()
}

// packet is a packet of a number, with those bits.
func packet(seq int, parts ...string) []byte {
	return append([]byte{byte(seq >> 8), byte(seq)}, data(parts...)...)
}

// model is a dictionary by the document's words: strings are texts.
type model struct {
	bits    int
	codes   map[string]int // of strings of more than one byte
	longest int            // of them
	next    int
	plain   int
	packed  int
}

func newModel(bits int) *model {
	return &model{bits: bits, codes: map[string]int{}}
}

func (m *model) copy() *model {
	out := *m
	out.codes = maps.Clone(m.codes)
	return &out
}

func (m *model) top() int {
	return 256 + len(m.codes)
}

func (m *model) last() int {
	return 1<<m.bits - 1
}

// least is the least number of bits, from 9 on, that goes beyond top.
func least(top int) int {
	n := 9
	for 1<<n <= top {
		n++
	}
	return n
}

// head is the longest string that b begins with, and its code.
func (m *model) head(b []byte) (string, int) {
	for n := min(len(b), m.longest); n > 1; n-- {
		if code, ok := m.codes[string(b[:n])]; ok {
			return string(b[:n]), code
		}
	}
	return string(b[:1]), int(b[0])
}

// write answers the bits of b's codes, of which it learns, and how many codes there are.
func (m *model) write(b []byte) (string, int) {
	var out strings.Builder
	n := 0
	for len(b) > 0 {
		s, code := m.head(b)
		out.WriteString(num(code, least(m.top())))
		n++
		if len(s) < len(b) && m.top() < m.last() {
			m.codes[string(b[:len(s)+1])] = m.top() + 1
			m.longest = max(m.longest, len(s)+1)
		}
		b = b[len(s):]
	}
	return out.String(), n
}

// behind is what is done behind a packet.
func (m *model) behind(plain, packed int) {
	m.next = (m.next + 1) % 65536
	m.plain += plain
	m.packed += packed
	if m.top() == m.last() && m.packed >= m.plain {
		*m = model{bits: m.bits, codes: map[string]int{}, next: m.next}
	}
}

// pack answers what goes over the line.
func (m *model) pack(b []byte) []byte {
	next := m.next
	bits, _ := m.write(b)
	codes := data(bits)
	m.behind(len(b), len(codes))
	return append([]byte{byte(next >> 8), byte(next)}, codes...)
}

// strings are those of more than one byte, by their codes.
func (m *model) strings() map[int]string {
	out := map[int]string{}
	for i := range 256 {
		out[i] = string([]byte{byte(i)})
	}
	for s, code := range m.codes {
		out[code] = s
	}
	return out
}

// unpack answers the bytes of a packet.
func (m *model) unpack(b []byte) ([]byte, api.Errno) {
	switch {
	case len(b) < 4:
		return nil, api.ErrShort
	case int(b[0])<<8|int(b[1]) != m.next:
		return nil, api.ErrSeq
	}
	out, e := m.read(bitsOf(b[2:]))
	if e != api.OK {
		return nil, e
	}
	other := m.copy()
	if bits, _ := other.write(out); !bytes.Equal(data(bits), b[2:]) {
		return nil, api.ErrData
	}
	*m = *other
	m.behind(len(out), len(b)-2)
	return out, api.OK
}

// read answers the bytes that codes say.
func (m *model) read(bits string) ([]byte, api.Errno) {
	all, top := m.strings(), m.top()
	var out []byte
	ahead := ""
	for {
		makes := ahead != "" && top < m.last()
		if makes {
			top++
		}
		n := least(top)
		if len(bits) < n {
			break
		}
		code := 0
		for _, c := range bits[:n] {
			code = 2*code + int(c-'0')
		}
		bits = bits[n:]
		if code == 256 || code > top {
			return nil, api.ErrData
		}
		if makes && code == top {
			all[top] = ahead + ahead[:1]
		} else if makes {
			all[top] = ahead + all[code][:1]
		}
		ahead = all[code]
		out = append(out, ahead...)
		if len(out) > api.MaxMru {
			return nil, api.ErrSize
		}
	}
	if len(bits) >= 8 || strings.Contains(bits, "1") || len(out) == 0 {
		return nil, api.ErrData
	}
	return out, api.OK
}

// alike checks that d knows what m does.
func alike(t *testing.T, what string, d *Dict, m *model) {
	t.Helper()
	if d.Seq() != m.next || d.Size() != len(m.codes) || d.plain != m.plain || d.packed != m.packed {
		t.Fatalf("%s: number %d, %d strings, %d bytes and %d, instead of %d, %d, %d, %d",
			what, d.Seq(), d.Size(), d.plain, d.packed, m.next, len(m.codes), m.plain, m.packed)
	}
}

// packs checks that d packs b as m does.
func packs(t *testing.T, what string, d *Dict, m *model, b []byte) []byte {
	t.Helper()
	before := bytes.Clone(b)
	want := m.pack(b)
	got, shorter, e := d.Pack(b)
	if !bytes.Equal(got, want) || shorter != (len(want) < len(b)) || e != api.OK {
		t.Fatalf("%s: %x %v %d instead of %x", what, got, shorter, e, want)
	}
	if !bytes.Equal(b, before) {
		t.Error(what, "what was handed in is changed")
	}
	alike(t, what, d, m)
	return got
}

// copied answers a dictionary that knows what d does.
func copied(d *Dict) *Dict {
	out := *d
	out.pairs = append([]pair(nil), d.pairs...)
	out.codes = maps.Clone(d.codes)
	return &out
}

// kept checks that nothing of d has changed since before was copied.
func kept(t *testing.T, what string, d, before *Dict) {
	t.Helper()
	if !d.Same(before) || !maps.Equal(d.codes, before.codes) {
		t.Error(what, "what is refused changes the dictionary")
	}
}
