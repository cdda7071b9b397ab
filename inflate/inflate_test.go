package inflate

import (
	"bytes"
	"compress/flate"
	"math"
	"slices"
	"strings"
	"testing"

	"tether/api"
)

// tells checks that b's data say want, and that used bytes of it have them.
func tells(t *testing.T, what string, b, history, want []byte, used int) {
	t.Helper()
	if got, n, e := Inflate(b, history, len(want)); !bytes.Equal(got, want) || n != used || e != api.OK {
		t.Errorf("%s: %d %d of %d, %d instead of %d bytes", what, e, n, used, len(got), len(want))
	}
}

// fails checks that b's data are at fault.
func fails(t *testing.T, what string, b, history []byte, most int, want api.Errno) {
	t.Helper()
	if got, n, e := Inflate(b, history, most); got != nil || n != 0 || e != want {
		t.Errorf("%s: %d, not %d (%d %d)", what, e, want, len(got), n)
	}
}

// ending answers data that end with just those bits, a block of some bytes ahead of them, and how many bytes that has.
func ending(bits string) ([]byte, int) {
	ahead, n := "0 10", 0
	for (3+9*n+7+len(bits))%8 != 0 {
		ahead += literal(200)
		n++
	}
	return data(ahead, literal(256), bits), n
}

// failsWith checks that the last one of the bits tells the fault, not one ahead of it.
func failsWith(t *testing.T, what, bits string, more int, want api.Errno) {
	t.Helper()
	bits = strings.ReplaceAll(bits, " ", "")
	b, n := ending(bits)
	fails(t, what, b, nil, n+more, want)
	b, n = ending(bits[:len(bits)-1])
	fails(t, what+", cut", b, nil, n+more, api.ErrShort)
}

// P20.1

func TestInflateOfTheExamples(t *testing.T) {
	tells(t, "a", []byte{0x4b, 0x04, 0x00}, nil, []byte("a"), 3)
	fails(t, "07", []byte{0x07}, nil, 9, api.ErrData)
	fails(t, "01", []byte{0x01}, nil, 9, api.ErrShort)
}

func TestInflateAsksForMost(t *testing.T) {
	for _, most := range []int{-1, 1<<20 + 1, math.MinInt, math.MaxInt} {
		for _, b := range [][]byte{nil, {0x07}, {0x4b, 0x04, 0x00}} {
			fails(t, "most", b, nil, most, api.ErrArg)
		}
	}
	for _, most := range []int{0, 1 << 20} {
		fails(t, "most", nil, nil, most, api.ErrShort)
		if b, n, e := Inflate([]byte{0x03, 0x00}, nil, most); len(b) != 0 || n != 2 || e != api.OK {
			t.Error(b, n, e)
		}
	}
}

func TestInflateOfStoredBlocks(t *testing.T) {
	tells(t, "none", []byte{1, 0, 0, 255, 255, 9}, nil, nil, 5)
	tells(t, "some", []byte{1, 3, 0, 252, 255, 'a', 'b', 'c', 9}, nil, []byte("abc"), 8)
	tells(t, "bits that are passed over", []byte{0xf9, 1, 0, 254, 255, 'a'}, nil, []byte("a"), 6)
	tells(t, "behind a fixed one", data("0 10", literal('x'), literal(256), filled(18, "100"), num(1, 16), num(65534, 16), num('y', 8)), nil, []byte("xy"), 8)
	tells(t, "ahead of a fixed one", data("00000000", num(1, 16), num(65534, 16), num('y', 8), "1 10", literal('x'), literal(256)), nil, []byte("yx"), 9)
	tells(t, "a copy out of one", data("00000000", num(3, 16), num(65532, 16), num('a', 8), num('b', 8), num('c', 8), "1 10", again(4, 3), literal(256)), nil, []byte("abcabca"), 11)
	for _, b := range [][]byte{{1}, {1, 3}, {1, 3, 0}, {1, 3, 0, 252}, {1, 3, 0, 252, 255}, {1, 3, 0, 252, 255, 'a', 'b'}, {1, 3, 0, 251}} {
		fails(t, "cut", b, nil, 0, api.ErrShort)
	}
	for _, b := range [][]byte{{1, 3, 0, 3, 0}, {1, 3, 0, 252, 254}, {1, 3, 0, 253, 255, 'a', 'b', 'c'}, {1, 0, 0, 0, 0}, {1, 0, 1, 255, 255}} {
		fails(t, "another length", b, nil, 9, api.ErrData)
	}
	whole := []byte{1, 3, 0, 252, 255, 'a', 'b', 'c'}
	fails(t, "too many", whole, nil, 2, api.ErrSize)
	fails(t, "too many, cut", whole[:7], nil, 2, api.ErrShort)
	fails(t, "too many", slices.Concat([]byte{0}, whole[1:], whole), nil, 5, api.ErrSize)
	tells(t, "just as many", slices.Concat([]byte{0}, whole[1:], whole), nil, []byte("abcabc"), 16)
}

func TestInflateOfStoredBlocksThatNoReaderHolds(t *testing.T) {
	text := bytes.Repeat([]byte("0123456789abcde"), 4*65535/15)
	b := Stored(text, true)
	if len(b) <= 1<<18 {
		t.Fatal(len(b))
	}
	tells(t, "whole", b, nil, text, len(b))
	tells(t, "with bytes behind", append(bytes.Clone(b), 1, 2), nil, text, len(b))
	for n := 1; n <= len(b)-1<<18+1; n++ {
		fails(t, "cut", b[:len(b)-n], nil, len(text), api.ErrShort)
	}
}

func TestInflateOfFixedBlocks(t *testing.T) {
	var all []byte
	bits := "1 10"
	for c := range 256 {
		all = append(all, byte(c))
		bits += literal(c)
	}
	b := data(bits, literal(256))
	tells(t, "each byte", append(b, 1, 2, 3), nil, all, len(b))
	for length := 3; length <= 258; length++ {
		b := data("1 10", literal('x'), again(length, 1), literal(256))
		tells(t, "length", b, nil, bytes.Repeat([]byte("x"), length+1), len(b))
	}
	b = data("1 10", literal(284), num(31, 5), code(0, 5), literal(256))
	tells(t, "a length in another way", b, []byte("y"), bytes.Repeat([]byte("y"), 258), len(b))
	tells(t, "a string that reaches over its place", data("1 10", literal('a'), literal('b'), again(5, 2), literal(256)), nil, []byte("abababa"), 5)
}

func TestInflateOfEachDistance(t *testing.T) {
	var d draws = 20
	history := make([]byte, 100000)
	for i := range history {
		history[i] = byte(d.next(256))
	}
	for symbol, from := range distancesFrom {
		for _, more := range []int{0, 1<<distanceBits[symbol] - 1} {
			back := from + more
			b := data("1 10", literal(257), code(symbol, 5), num(more, distanceBits[symbol]), literal(256))
			for _, ahead := range []int{len(history), 32768 + 9, 32768, back} {
				h := history[len(history)-ahead:]
				if ahead < back {
					continue
				}
				want := bytes.Clone(h)
				for range 3 {
					want = append(want, want[len(want)-back])
				}
				tells(t, "distance", b, h, want[ahead:], len(b))
			}
			fails(t, "beyond the beginning", b, history[:back-1], 9, api.ErrData)
		}
	}
}

func TestFaultsOfFixedBlocks(t *testing.T) {
	failsWith(t, "kind 3", "0 11", 0, api.ErrData)
	failsWith(t, "kind 3, the last block", "1 11", 0, api.ErrData)
	failsWith(t, "286", "0 10"+literal(286), 9, api.ErrData)
	failsWith(t, "287", "0 10"+literal(287), 9, api.ErrData)
	failsWith(t, "286, and no room", "0 10"+literal(286), 0, api.ErrData)
	failsWith(t, "a distance 30", "0 10"+literal('a')+literal(257)+code(30, 5), 9, api.ErrData)
	failsWith(t, "a distance 31", "0 10"+literal('a')+literal(257)+code(31, 5), 9, api.ErrData)
	failsWith(t, "a distance beyond", "0 10"+literal('a')+again(3, 24577+8191), 9, api.ErrData)
	failsWith(t, "a distance beyond, and no room", "0 10"+again(3, 257), 0, api.ErrData)
	failsWith(t, "too many", "0 10"+literal('a')+literal('b'), 1, api.ErrSize)
	failsWith(t, "too many", "0 10"+literal(144), 0, api.ErrSize)
	failsWith(t, "too many", "0 10"+literal('a')+literal('a')+again(7, 2), 8, api.ErrSize)
	failsWith(t, "far too many", "0 10"+literal('a')+again(258, 1), 1, api.ErrSize)
	bare := data("0 10", literal('a'), again(3, 2))
	fails(t, "one beyond", bare, nil, 9, api.ErrData)
	fails(t, "history just as long", bare, []byte("b"), 9, api.ErrShort)
	fails(t, "no end", data("1 10", literal('a')), nil, 9, api.ErrShort)
	fails(t, "no block behind one that is not the last", data("0 10", literal('a'), literal(256)), nil, 9, api.ErrShort)
}

// eight is a code of a row: eight symbols of three bits.
func eight() map[int]int {
	return map[int]int{0: 3, 1: 3, 2: 3, 3: 3, 4: 3, 16: 3, 17: 3, 18: 3}
}

// head is how a dynamic block begins: up to the lengths of the code of its row.
func head(h, d int, of map[int]int) string {
	bits := "0 01" + num(h, 5) + num(d, 5) + num(15, 4)
	for _, symbol := range []int{16, 17, 18, 0, 8, 7, 9, 6, 10, 5, 11, 4, 12, 3, 13, 2, 14, 1, 15} {
		bits += num(of[symbol], 3)
	}
	return bits
}

// row is the bits of a row's symbols, behind some of which a number stands.
func row(of map[int]int, symbols ...int) string {
	lengths := make([]int, 19)
	for symbol, n := range of {
		lengths[symbol] = n
	}
	codes := map[int]string{}
	for bits, symbol := range spell(lengths) {
		codes[symbol] = bits
	}
	var out strings.Builder
	for i := 0; i < len(symbols); i++ {
		symbol := symbols[i]
		out.WriteString(codes[symbol])
		if symbol >= 16 {
			i++
			out.WriteString(num(symbols[i], []int{2, 3, 7}[symbol-16]))
		}
	}
	return out.String()
}

// dynamicHead is a dynamic block up to its first symbol.
func dynamicHead(h, d int, symbols ...int) string {
	return head(h, d, eight()) + row(eight(), symbols...)
}

// aAndThree is a block in which 0 is a length of 3, 10 the byte a, 11 the end; its distances are left to be said.
func aAndThree(distances ...int) string {
	return dynamicHead(1, len(distances)-1, append([]int{18, 86, 2, 18, 127, 18, 9, 2, 1}, distances...)...)
}

// lastOne makes the first block of bits the last one.
func lastOne(bits string) string {
	return "1" + bits[1:]
}

// dynamics checks what the bits of a block say, the last one made of it.
func dynamics(t *testing.T, what, bits, history, want string) {
	t.Helper()
	b := data(lastOne(bits))
	tells(t, what, append(b, 7), []byte(history), []byte(want), len(b))
}

func TestInflateOfDynamicBlocks(t *testing.T) {
	ab := []int{18, 86, 2, 2, 18, 127, 18, 8, 1} // a is 10, b 11, the end 0
	dynamics(t, "a distance alone", dynamicHead(0, 0, append(ab, 1)...)+"10 11 10 0", "", "aba")
	dynamics(t, "no distance", dynamicHead(0, 0, append(ab, 0)...)+"11 0", "", "b")
	dynamics(t, "nothing", dynamicHead(0, 0, append(ab, 0)...)+"0", "", "")
	dynamics(t, "two distances", dynamicHead(0, 1, append(ab, 1, 1)...)+"0", "", "")
	dynamics(t, "a copy, by a distance alone", aAndThree(1)+"10 0 0 11", "", "aaaa")
	dynamics(t, "copies, by a distance alone with a bit more", aAndThree(0, 0, 0, 0, 1)+"0 0 1 10 0 0 0 11", "abcdef", "abcafab")
	dynamics(t, "copies, by four distances", aAndThree(2, 2, 2, 2)+"10 0 11 0 01 11", "xyz", "axyzyzy")
	dynamics(t, "a length that goes on to the distances", dynamicHead(1, 3, 18, 86, 2, 2, 18, 127, 18, 8, 2, 16, 2)+"00 01 11 01 10", "", "ababa")
	long := strings.Repeat("0123456789abcdef", 2048)
	dynamics(t, "the most symbols", dynamicHead(29, 29, 18, 127, 18, 107, 1, 18, 17, 1, 18, 18, 1)+"1 0 1111111111111 0", long, long[:258])
}

func TestFaultsOfDynamicBlocks(t *testing.T) {
	ab := []int{18, 86, 2, 2, 18, 127, 18, 8}
	for _, c := range []struct{ what, bits string }{
		{"h 30", "0 01" + num(30, 5)},
		{"h 31", "0 01" + num(31, 5)},
		{"d 30", "0 01" + num(29, 5) + num(30, 5)},
		{"d 31", "0 01" + num(0, 5) + num(31, 5)},
		{"a row's code without codes", head(0, 0, nil)},
		{"a row's code of one bit", head(0, 0, map[int]int{18: 1})},
		{"a row's code that is not full", head(0, 0, map[int]int{1: 2, 2: 2, 18: 2})},
		{"a row's code that is too full", head(0, 0, map[int]int{1: 1, 2: 1, 18: 7})},
		{"a row's code of four lengths that is not full", "0 01" + num(0, 14) + num(1, 3) + num(2, 3) + num(3, 3) + num(4, 3)},
		{"16 first", head(0, 0, eight()) + row(eight(), 16, 0)[:3]},
		{"no length of 256", dynamicHead(0, 0, append(ab, 0, 1)...)},
		{"no length of 256, said by a full row", dynamicHead(0, 0, 1, 1, 18, 127, 18, 106, 1)},
		{"256 alone", dynamicHead(0, 0, 18, 127, 18, 107, 1, 1)},
		{"literals that are not full", dynamicHead(0, 0, append(ab, 2, 1)...)},
		{"literals that are too full", dynamicHead(0, 0, append([]int{1, 18, 85}, append(ab[2:], 1, 1)...)...)},
		{"a distance alone, of two bits", dynamicHead(0, 0, append(ab, 1, 2)...)},
		{"distances that are not full", dynamicHead(0, 1, append(ab, 1, 1, 2)...)},
		{"distances that are too full", dynamicHead(0, 2, append(ab, 1, 1, 1, 1)...)},
		{"a row that goes on by 16", dynamicHead(0, 1, append(ab, 1, 16, 0)...)},
		{"a row that goes on by 17", dynamicHead(0, 1, append(ab, 1, 17, 0)...)},
		{"a row that goes on by 18", dynamicHead(0, 1, 18, 127, 18, 110)},
		{"bits that are no distance", aAndThree(1) + "10 0 1"},
		{"bits that are no distance, as there is none", aAndThree(0) + "10 0 0"},
		{"bits that are no distance, as there is none", aAndThree(0, 0) + "10 0 1"},
		{"a distance beyond", aAndThree(0, 0, 0, 0, 0, 0, 0, 0, 1) + "10 0 0 111"},
	} {
		failsWith(t, c.what, c.bits, 1<<15, api.ErrData)
	}
	failsWith(t, "too many", aAndThree(1)+"10 10", 1, api.ErrSize)
	failsWith(t, "too many", aAndThree(1)+"10 0 0", 3, api.ErrSize)
}

func TestInflateKeepsToWhatIsToldFirst(t *testing.T) {
	fails(t, "a distance beyond, ahead of kind 3", data("0 10", again(3, 1), literal(256), "0 11"), nil, 0, api.ErrData)
	fails(t, "too many, ahead of kind 3", data("0 10", literal('a'), literal(256), "0 11"), nil, 0, api.ErrSize)
	fails(t, "kind 3, ahead of too many", data("0 11", literal('a')), nil, 0, api.ErrData)
	fails(t, "a distance beyond that is cut", data("0 10", literal(257), code(29, 5), "0"), nil, 9, api.ErrShort)
	fails(t, "a length that is cut", data("0 10", literal('a'), literal(280), "0"), nil, 0, api.ErrSize)
	fails(t, "a length that is cut", data("0 10", literal(144), literal(277), "1")[:3], nil, 1, api.ErrShort)
	b := data("1 10", literal('a'), literal(256))
	tells(t, "what is behind the last block plays no part", append(b, 0xff, 0xff), nil, []byte("a"), 3)
	tells(t, "bits behind the last one's end", []byte{0x4b, 0x04, 0xfc}, nil, []byte("a"), 3)
}

func TestInflateReadsWhatOthersPack(t *testing.T) {
	var d draws = 21
	for range 200 {
		text, history := d.text(d.next(1<<d.next(15))), d.text(d.next(1<<d.next(17)))
		var b bytes.Buffer
		w, err := flate.NewWriterDict(&b, d.next(12)-2, history)
		if err != nil {
			t.Fatal(err)
		}
		cut := d.next(len(text) + 1)
		w.Write(text[:cut])
		if d.next(2) == 0 {
			w.Flush()
		}
		w.Write(text[cut:])
		w.Close()
		used := b.Len()
		b.WriteString("behind")
		tells(t, "flate", b.Bytes(), history, text, used)
		if len(text) > 0 {
			fails(t, "flate", b.Bytes(), history, len(text)-1, api.ErrSize)
		}
	}
}
