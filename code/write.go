package code

import (
	"strconv"
	"strings"

	"tether/api"
	"tether/filter"
)

// insSize is how many bytes an instruction has.
const insSize = 16

// What is told in a line.
var (
	kindNames = [...]string{
		filter.Proto: "proto",
		filter.Host:  "host",
		filter.Net:   "net",
		filter.Port:  "port",
		filter.Less:  "less",
		filter.More:  "greater",
	}
	dirNames = [...]string{
		filter.Either: "either",
		filter.Src:    "src",
		filter.Dst:    "dst",
	}
)

// Bytes answers p as bytes.
func Bytes(p []Ins) ([]byte, api.Errno, int) {
	if e, at := Right(p); e != api.OK {
		return nil, e, at
	}
	out := make([]byte, 0, insSize*len(p))
	for _, ins := range p {
		out = append(out, byte(ins.Op), byte(ins.Kind), byte(ins.Dir), byte(ins.Len))
		out = put(out, ins.N, 8)
		out = put(out, int64(ins.T), 2)
		out = put(out, int64(ins.F), 2)
	}
	return out, api.OK, 0
}

// put puts n behind b in so many bytes, the highest first.
func put(b []byte, n int64, size int) []byte {
	for size--; size >= 0; size-- {
		b = append(b, byte(n>>(8*size)))
	}
	return b
}

// Read answers the program whose bytes are b.
func Read(b []byte) ([]Ins, api.Errno, int) {
	switch {
	case len(b) == 0 || len(b) > insSize*api.MaxProg:
		return nil, api.ErrSize, 0
	case len(b)%insSize != 0:
		return nil, api.ErrShort, len(b) / insSize
	}
	var out []Ins
	for ; len(b) > 0; b = b[insSize:] {
		out = append(out, Ins{
			Op: int(b[0]), Kind: int(b[1]), Dir: int(b[2]), Len: int(b[3]),
			N: number(b[4:12]), // a great one comes out below 0, and can not be either
			T: int(number(b[12:14])), F: int(number(b[14:16])),
		})
	}
	if e, at := Right(out); e != api.OK {
		return nil, e, at
	}
	return out, api.OK, 0
}

// number answers the number of all of b, the highest byte first.
func number(b []byte) int64 {
	var n int64
	for _, c := range b {
		n = n<<8 | int64(c)
	}
	return n
}

// Text answers p as lines, an instruction each.
func Text(p []Ins) (string, api.Errno, int) {
	if e, at := Right(p); e != api.OK {
		return "", e, at
	}
	var out strings.Builder
	for i, ins := range p {
		out.WriteString(strings.Join(words(i, stepOf(ins)), " "))
		out.WriteByte('\n')
	}
	return out.String(), api.OK, 0
}

// words answers what is told of the instruction of that number.
func words(at int, s step) []string {
	out := []string{strconv.Itoa(at)}
	next := at + 1
	switch x := s.(type) {
	case test:
		out = append(out, "test", kindNames[x.Kind], dirNames[x.Dir], strconv.FormatInt(x.N, 10))
		out = append(out, strconv.Itoa(x.Len), strconv.Itoa(next+x.T), strconv.Itoa(next+x.F))
	case end:
		out = append(out, "ret", strconv.FormatInt(x.N, 10))
	case jump:
		out = append(out, "jump", strconv.Itoa(next+x.T))
	}
	return out
}
