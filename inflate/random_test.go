package inflate

import (
	"bytes"
	"slices"
	"testing"

	"tether/api"
	"tether/huff"
)

// block answers the bits of a block that can be read, but for copies from too far back, and what stands ahead of it.
func (d *draws) block(at int, last bool) string {
	first := num(map[bool]int{false: 0, true: 1}[last], 1)
	switch d.next(4) {
	case 0:
		out := filled(at, first+"00")
		b := d.text(d.next(12))
		out += num(len(b), 16) + num(65535-len(b), 16)
		for _, c := range b {
			out += num(int(c), 8)
		}
		return out
	case 1:
		return first + "10" + d.tokens(spelt(fixedLengths()), spelt(slices.Repeat([]int{5}, 30)))
	}
	return first + "01" + d.dynamic()
}

// spelt is the codes of lengths, by their symbols.
func spelt(lengths []int) map[int]string {
	out := map[int]string{}
	for bits, symbol := range spell(lengths) {
		out[symbol] = bits
	}
	return out
}

// some answers lengths of n symbols, few of which have codes, one of them at least if must is not below 0: that one.
func (d *draws) some(n, must, most int) []int {
	freq := make([]int, n)
	for range d.next(12) {
		freq[d.next(n)] = 1 + d.next(1<<d.next(20))
	}
	if must >= 0 {
		freq[must] = 1
		if other := d.next(n); other != must {
			freq[other] = 5
		} else {
			freq[(other+1)%n] = 5
		}
	}
	l, e := huff.Lengths(freq, most)
	if e != api.OK {
		panic(e)
	}
	return l
}

// dynamic answers a dynamic block's bits behind its kind.
func (d *draws) dynamic() string {
	literals := d.some(257+d.next(30), 256, 15)
	distances := d.some(1+d.next(30), -1, 15)
	symbols := d.row(slices.Concat(literals, distances))
	freq := make([]int, 19)
	for _, s := range symbols {
		freq[s.symbol]++
	}
	freq[d.next(19)]++
	freq[18]++
	freq[17]++
	of, _ := huff.Lengths(freq, 7)
	order := []int{16, 17, 18, 0, 8, 7, 9, 6, 10, 5, 11, 4, 12, 3, 13, 2, 14, 1, 15}
	n := 19
	for n > 4 && of[order[n-1]] == 0 && d.next(9) > 0 {
		n--
	}
	out := num(len(literals)-257, 5) + num(len(distances)-1, 5) + num(n-4, 4)
	for _, symbol := range order[:n] {
		out += num(of[symbol], 3)
	}
	codes := spelt(of)
	for _, s := range symbols {
		out += codes[s.symbol] + num(s.more, s.bits)
	}
	return out + d.tokens(spelt(literals), spelt(distances))
}

// rowSymbol is a symbol of a row, and the number behind it.
type rowSymbol struct{ symbol, more, bits int }

// row answers the symbols of lengths, in one of the ways in which they can stand.
func (d *draws) row(lengths []int) []rowSymbol {
	var out []rowSymbol
	for i := 0; i < len(lengths); {
		run := 1
		for i+run < len(lengths) && lengths[i+run] == lengths[i] {
			run++
		}
		switch {
		case d.next(9) == 0:
			run = 1
			out = append(out, rowSymbol{symbol: lengths[i]})
		case i > 0 && lengths[i] == lengths[i-1] && run >= 3:
			run = min(run, 3+d.next(4))
			out = append(out, rowSymbol{16, run - 3, 2})
		case lengths[i] == 0 && run >= 11:
			run = min(run, 11+d.next(128))
			out = append(out, rowSymbol{18, run - 11, 7})
		case lengths[i] == 0 && run >= 3:
			run = min(run, 3+d.next(8))
			out = append(out, rowSymbol{17, run - 3, 3})
		default:
			run = 1
			out = append(out, rowSymbol{symbol: lengths[i]})
		}
		i += run
	}
	return out
}

// tokens answers the bits of symbols that have codes, and of the end.
func (d *draws) tokens(literals, distances map[int]string) string {
	var out string
	var symbols, backs []int
	for symbol := range 286 {
		if literals[symbol] != "" && symbol != 256 && (symbol < 256 || len(distances) > 0) {
			symbols = append(symbols, symbol)
		}
	}
	for symbol := range 30 {
		if distances[symbol] != "" {
			backs = append(backs, symbol)
		}
	}
	for range min(d.next(20), 20*len(symbols)) {
		symbol := symbols[d.next(len(symbols))]
		out += literals[symbol]
		if symbol > 256 {
			more := lengthBits[symbol-257]
			back := backs[d.next(min(d.next(len(backs))+1, len(backs)))]
			out += num(d.next(1<<more), more) + distances[back] + num(d.next(1<<distanceBits[back]), distanceBits[back])
		}
	}
	return out + literals[256]
}

// bits answers the bits of blocks, of which just the last one is the last.
func (d *draws) bits(last bool) string {
	var out string
	for range d.next(4) {
		out += d.block(len(out), false)
	}
	return out + d.block(len(out), last)
}

// turned answers b with some of its bits turned, or cut short, or longer.
func (d *draws) turned(b []byte) []byte {
	out := bytes.Clone(b)
	for range d.next(3) {
		if len(out) > 0 {
			out[d.next(len(out))] ^= 1 << d.next(8)
		}
	}
	switch d.next(4) {
	case 0:
		out = out[:d.next(len(out)+1)]
	case 1:
		out = append(out, d.text(d.next(9))...)
	}
	return out
}

// P20.1

func TestInflateOfDataByChance(t *testing.T) {
	var d draws = 22
	right := 0
	for range 1500 {
		history := d.text([]int{0, 9, 300, 33000}[d.next(4)])
		b := data(d.bits(true))
		if d.next(2) == 0 {
			b = d.turned(b)
		}
		most := []int{1 << 20, 1 << 20, d.next(50), d.next(2000)}[d.next(4)]
		got, n, e := Inflate(b, history, most)
		want, wantN, wantE := inflated(b, history, most)
		if !bytes.Equal(got, want) || n != wantN || e != wantE {
			t.Fatalf("%x behind %d: %d %d %d instead of %d %d %d", b, len(history), len(got), n, e, len(want), wantN, wantE)
		}
		if e == api.OK {
			right++
		}
	}
	if right < 500 {
		t.Error("only so many could be read:", right)
	}
}

// P20.8

func TestDataThatAreCutShort(t *testing.T) {
	var d draws = 23
	for range 150 {
		history := d.text(40)
		b := data(d.bits(true))
		whole, used, e := Inflate(b, history, 1<<20)
		if e != api.OK {
			continue
		}
		for n := range used {
			got, n, e := Inflate(b[:n], history, 1<<20)
			if e != api.ErrShort && (e != api.OK || !bytes.HasPrefix(whole, got) || n > used) {
				t.Fatalf("%x, cut to %d bytes: %x %d", b, n, got, e)
			}
		}
		for _, behind := range [][]byte{{0}, {255}, {1, 2, 3, 4, 5, 6, 7, 8, 9}} {
			tells(t, "bytes behind", append(bytes.Clone(b[:used]), behind...), history, whole, used)
		}
	}
}

// P20.4

func TestUnpackOfDataByChance(t *testing.T) {
	var d draws = 24
	right := 0
	for range 1500 {
		bits := 8 + d.next(8)
		u := NewUnpacker(bits)
		var history []byte
		for range d.next(3) {
			frame := d.text(1 + d.next(1<<d.next(14)))
			u.Plain(frame)
			history = append(history, frame...)
		}
		seq := u.Seq()
		b := append([]byte{0, byte(seq)}, data(d.bits(d.next(9) == 0)+"000")...)
		if d.next(2) == 0 {
			b = append(b[:2], d.turned(b[2:])...)
		}
		got, e := u.Unpack(b)
		want, wantE := unpacked(b, history, 1<<bits)
		if !bytes.Equal(got, want) || e != wantE {
			t.Fatalf("%x behind %d: %x %d instead of %x %d", b, len(history), got, e, want, wantE)
		}
		if e == api.OK {
			right++
			seq++
		}
		if u.Seq() != seq {
			t.Fatal(u.Seq(), "instead of", seq)
		}
	}
	if right < 100 {
		t.Error("only so many could be read:", right)
	}
}
