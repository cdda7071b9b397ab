package inflate

import (
	"bytes"
	"slices"
	"strings"

	"tether/api"
)

// draws is a chain of numbers that are the same at each run.
type draws uint64

func (d *draws) next(below int) int {
	*d = *d*6364136223846793005 + 1442695040888963407
	return int(uint64(*d)>>33) % below
}

// text answers n bytes of few or many kinds, some of which stand there more than once in a row.
func (d *draws) text(n int) []byte {
	kinds := 1 << d.next(9)
	out := make([]byte, 0, n)
	for len(out) < n {
		if len(out) > 0 && d.next(8) == 0 {
			back := 1 + d.next(len(out))
			for range min(1+d.next(1<<d.next(10)), n-len(out)) {
				out = append(out, out[len(out)-back])
			}
			continue
		}
		out = append(out, byte(d.next(kinds)))
	}
	return out
}

// num is a number as bits of a stream: the lowest one first.
func num(v, n int) string {
	var out strings.Builder
	for i := range n {
		out.WriteByte('0' + byte(v>>i&1))
	}
	return out.String()
}

// code is a code as bits of a stream: the highest one first.
func code(v, n int) string {
	b := []byte(num(v, n))
	slices.Reverse(b)
	return string(b)
}

// data are the bytes of bits, up to the next byte with bits 0; what stands between bits is passed over.
func data(parts ...string) []byte {
	var out []byte
	n := 0
	for _, c := range strings.Join(parts, "") {
		if c != '0' && c != '1' {
			continue
		}
		if n%8 == 0 {
			out = append(out, 0)
		}
		out[n/8] |= byte(c-'0') << (n % 8)
		n++
	}
	return out
}

// filled are bits, and bits 0 up to the next byte, where at bits stand ahead of them.
func filled(at int, bits string) string {
	for (at+len(bits))%8 != 0 {
		bits += "0"
	}
	return bits
}

// model reads data bit by bit, as the document has them.
type model struct {
	bits string
	at   int
	all  []byte // the history, and what is told
	told int
	most int
	size int // of the window
}

// newModel answers a model of b's data.
func newModel(b, history []byte, most, size int) *model {
	m := &model{all: bytes.Clone(history), most: most, size: size}
	for _, c := range b {
		m.bits += num(int(c), 8)
	}
	return m
}

// thrown is an error that ends the model.
type thrown api.Errno

func (m *model) num(n int) int {
	if len(m.bits)-m.at < n {
		panic(thrown(api.ErrShort))
	}
	v := 0
	for i := range n {
		v |= int(m.bits[m.at+i]-'0') << i
	}
	m.at += n
	return v
}

func check(ok bool, e api.Errno) {
	if !ok {
		panic(thrown(e))
	}
}

// spell is the codes of lengths, by their bits.
func spell(lengths []int) map[string]int {
	out := map[string]int{}
	next := 0
	for n := 1; n <= 15; n++ {
		next *= 2
		for symbol, length := range lengths {
			if length == n {
				out[code(next, n)] = symbol
				next++
			}
		}
	}
	return out
}

// share is how many of 32768 rows of bits begin with a code.
func share(lengths []int) int {
	sum := 0
	for _, n := range lengths {
		if n > 0 {
			sum += 32768 >> n
		}
	}
	return sum
}

func (m *model) symbol(codes map[string]int) int {
	for n := 1; ; n++ {
		check(m.at+n <= len(m.bits), api.ErrShort)
		bits := m.bits[m.at : m.at+n]
		if symbol, ok := codes[bits]; ok {
			m.at += n
			return symbol
		}
		begins := false
		for c := range codes {
			begins = begins || strings.HasPrefix(c, bits)
		}
		check(begins, api.ErrData)
	}
}

func (m *model) put(c byte) {
	check(m.told < m.most, api.ErrSize)
	m.all = append(m.all, c)
	m.told++
}

// block reads a block, and tells whether it is the last one, and an empty stored one.
func (m *model) block() (last, empty bool) {
	last = m.num(1) == 1
	switch m.num(2) {
	case 0:
		m.at = (m.at + 7) / 8 * 8
		n := m.num(16)
		check(m.num(16) == 65535-n, api.ErrData)
		check(len(m.bits)-m.at >= 8*n, api.ErrShort)
		check(m.told+n <= m.most, api.ErrSize)
		for range n {
			m.put(byte(m.num(8)))
		}
		return last, n == 0
	case 1:
		m.symbols(spell(fixedLengths()), spell(slices.Repeat([]int{5}, 32)))
	case 2:
		m.dynamic()
	default:
		check(false, api.ErrData)
	}
	return last, false
}

// fixedLengths are those of a fixed block's literals.
func fixedLengths() []int {
	return slices.Concat(slices.Repeat([]int{8}, 144), slices.Repeat([]int{9}, 112), slices.Repeat([]int{7}, 24), slices.Repeat([]int{8}, 8))
}

func (m *model) dynamic() {
	h := m.num(5)
	check(h <= 29, api.ErrData)
	d := m.num(5)
	check(d <= 29, api.ErrData)
	of := make([]int, 19)
	for _, i := range []int{16, 17, 18, 0, 8, 7, 9, 6, 10, 5, 11, 4, 12, 3, 13, 2, 14, 1, 15}[:m.num(4)+4] {
		of[i] = m.num(3)
	}
	check(share(of) == 32768, api.ErrData)
	var row []int
	for len(row) < h+257+d+1 {
		symbol := m.symbol(spell(of))
		switch symbol {
		case 16:
			check(len(row) > 0, api.ErrData)
			row = append(row, slices.Repeat(row[len(row)-1:], 3+m.num(2))...)
		case 17:
			row = append(row, make([]int, 3+m.num(3))...)
		case 18:
			row = append(row, make([]int, 11+m.num(7))...)
		default:
			row = append(row, symbol)
		}
		check(len(row) <= h+257+d+1, api.ErrData)
	}
	literals, distances := row[:h+257], row[h+257:]
	check(literals[256] > 0 && share(literals) == 32768, api.ErrData)
	n := len(spell(distances))
	check(share(distances) == 32768 || n == 0 || n == 1 && share(distances) == 16384, api.ErrData)
	m.symbols(spell(literals), spell(distances))
}

// The lengths and distances, and how many bits stand behind each.
var (
	lengthsFrom   = []int{3, 4, 5, 6, 7, 8, 9, 10, 11, 13, 15, 17, 19, 23, 27, 31, 35, 43, 51, 59, 67, 83, 99, 115, 131, 163, 195, 227, 258}
	lengthBits    = []int{0, 0, 0, 0, 0, 0, 0, 0, 1, 1, 1, 1, 2, 2, 2, 2, 3, 3, 3, 3, 4, 4, 4, 4, 5, 5, 5, 5, 0}
	distancesFrom = []int{1, 2, 3, 4, 5, 7, 9, 13, 17, 25, 33, 49, 65, 97, 129, 193, 257, 385, 513, 769, 1025, 1537, 2049, 3073, 4097, 6145, 8193, 12289, 16385, 24577}
	distanceBits  = []int{0, 0, 0, 0, 1, 1, 2, 2, 3, 3, 4, 4, 5, 5, 6, 6, 7, 7, 8, 8, 9, 9, 10, 10, 11, 11, 12, 12, 13, 13}
)

func (m *model) symbols(literals, distances map[string]int) {
	for {
		symbol := m.symbol(literals)
		if symbol == 256 {
			return
		}
		if symbol < 256 {
			m.put(byte(symbol))
			continue
		}
		check(symbol <= 285, api.ErrData)
		length := lengthsFrom[symbol-257] + m.num(lengthBits[symbol-257])
		symbol = m.symbol(distances)
		check(symbol <= 29, api.ErrData)
		back := distancesFrom[symbol] + m.num(distanceBits[symbol])
		check(back <= m.size && back <= len(m.all), api.ErrData)
		for range length {
			m.put(m.all[len(m.all)-back])
		}
	}
}

// caught is what f throws.
func caught(f func()) (e api.Errno) {
	defer func() {
		if x := recover(); x != nil {
			e = api.Errno(x.(thrown))
		}
	}()
	f()
	return api.OK
}

// inflated is what Inflate is to answer.
func inflated(b, history []byte, most int) ([]byte, int, api.Errno) {
	m := newModel(b, history, most, 32768)
	e := caught(func() {
		for last := false; !last; {
			last, _ = m.block()
		}
	})
	if e != api.OK {
		return nil, 0, e
	}
	return m.all[len(history):], (m.at + 7) / 8, api.OK
}

// unpacked is what Unpack is to answer of a packet with the right number.
func unpacked(b, history []byte, size int) ([]byte, api.Errno) {
	m := newModel(slices.Concat(b[2:], []byte{0, 0, 255, 255}), history, 16386, size)
	e := caught(func() {
		for {
			last, empty := m.block()
			check(!last, api.ErrData)
			if empty && m.at == len(m.bits) {
				break
			}
		}
		check(m.told > 0, api.ErrData)
	})
	if e != api.OK {
		return nil, api.ErrData
	}
	return m.all[len(history):], api.OK
}

// matched are the bits of a block of the tokens of text behind others, found place by place.
func matched(text, others []byte, size int, last bool) string {
	var out strings.Builder
	out.WriteString(map[bool]string{false: "0", true: "1"}[last] + "10")
	all := slices.Concat(others, text)
	for at := len(others); at < len(all); {
		length, back := 0, 0
		for b := 1; b <= min(size, at) && length < 258; b++ {
			n := 0
			for n < min(258, len(all)-at) && all[at+n-b] == all[at+n] {
				n++
			}
			if n > length {
				length, back = n, b
			}
		}
		if length < 3 {
			out.WriteString(literal(int(all[at])))
			at++
			continue
		}
		out.WriteString(again(length, back))
		at += length
	}
	return out.String() + literal(256)
}

// literal are the bits of a fixed block's symbol.
func literal(symbol int) string {
	switch {
	case symbol < 144:
		return code(0x30+symbol, 8)
	case symbol < 256:
		return code(0x190+symbol-144, 9)
	case symbol < 280:
		return code(symbol-256, 7)
	}
	return code(0xc0+symbol-280, 8)
}

// again are the bits of a length and a distance in a fixed block.
func again(length, back int) string {
	l, d := 28, 29
	for lengthsFrom[l] > length {
		l--
	}
	for distancesFrom[d] > back {
		d--
	}
	return literal(257+l) + num(length-lengthsFrom[l], lengthBits[l]) + code(d, 5) + num(back-distancesFrom[d], distanceBits[d])
}

// stored are the bytes of stored blocks of text.
func storedBytes(text []byte, last bool) []byte {
	var out []byte
	for len(text) > 65535 {
		out = append(out, slices.Concat([]byte{0, 255, 255, 0, 0}, text[:65535])...)
		text = text[65535:]
	}
	n := len(text)
	head := map[bool]byte{false: 0, true: 1}[last]
	return slices.Concat(out, []byte{head, byte(n), byte(n >> 8), byte(255 - n%256), byte(255 - n/256)}, text)
}
