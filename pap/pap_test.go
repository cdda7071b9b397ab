package pap

import (
	"bytes"
	"math"
	"strings"
	"testing"

	"tether/api"
	"tether/opt"
)

// draws is a chain of numbers that are the same at each run.
type draws uint64

func (d *draws) next(below int) int {
	*d = *d*6364136223846793005 + 1442695040888963407
	return int(uint64(*d)>>33) % below
}

// text answers so many drawn bytes, from least on.
func (d *draws) text(n, least, behind int) string {
	b := make([]byte, n)
	for i := range b {
		b[i] = byte(least + d.next(behind-least))
	}
	return string(b)
}

func samePacket(a, b api.Packet) bool {
	return a.Code == b.Code && a.Id == b.Id && bytes.Equal(a.Data, b.Data)
}

func noPacket(p api.Packet) bool {
	return p.Code == 0 && p.Id == 0 && p.Data == nil
}

// wrongIds are no identifiers.
func wrongIds() []int {
	return []int{math.MinInt, -256, -1, 256, 257, 1 << 32, math.MaxInt}
}

// part answers a part as it stands in a packet.
func part(s string) string {
	return string([]byte{byte(len(s))}) + s
}

// packet answers one.
func packet(code, id int, data string) api.Packet {
	return api.Packet{Code: code, Id: id, Data: []byte(data)}
}

// The document's 'Functions'

func TestStatesHaveTheirNumbers(t *testing.T) {
	if Wait != 0 || Accepted != 1 || Refused != 2 || Gone != 3 {
		t.Error(Wait, Accepted, Refused, Gone)
	}
}

// P12.1

func TestRequest(t *testing.T) {
	long := strings.Repeat("\xff", 255)
	for _, c := range []struct {
		id         int
		name, word string
		data       string
	}{
		{7, "alice", "x", "\x05alice\x01x"},
		{0, "", "", "\x00\x00"},
		{255, "\x00\"\\\xff", "\n", "\x04\x00\"\\\xff\x01\n"},
		{1, long, long, "\xff" + long + "\xff" + long},
		{1, "", long, "\x00\xff" + long},
	} {
		if p, e := Request(c.id, c.name, c.word); !samePacket(p, packet(1, c.id, c.data)) || e != api.OK {
			t.Error(c.id, c.name, c.word, p, e)
		}
	}
}

func TestRequestRefuses(t *testing.T) {
	long := strings.Repeat("n", 256)
	for _, id := range wrongIds() {
		for _, name := range []string{"n", long} {
			if p, e := Request(id, name, name); !noPacket(p) || e != api.ErrArg {
				t.Error(id, len(name), e)
			}
		}
	}
	for _, c := range []struct{ name, word string }{
		{long, ""}, {"", long}, {long, long}, {long[1:], long}, {long, long[1:]}, {strings.Repeat("n", 1<<20), "w"},
	} {
		if p, e := Request(1, c.name, c.word); !noPacket(p) || e != api.ErrSize {
			t.Error(len(c.name), len(c.word), e)
		}
	}
}

func TestAnswer(t *testing.T) {
	long := strings.Repeat("~", 255)
	for _, c := range []struct {
		id      int
		ok      bool
		message string
		want    api.Packet
	}{
		{7, true, "welcome", packet(2, 7, "\x07welcome")},
		{0, false, "", packet(3, 0, "\x00")},
		{255, false, " \"\\~", packet(3, 255, "\x04 \"\\~")},
		{1, true, long, packet(2, 1, "\xff"+long)},
	} {
		if p, e := Answer(c.id, c.ok, c.message); !samePacket(p, c.want) || e != api.OK {
			t.Error(c.id, c.ok, c.message, p, e)
		}
	}
}

func TestAnswerRefuses(t *testing.T) {
	long := strings.Repeat("m", 256)
	for _, ok := range []bool{false, true} {
		for _, id := range wrongIds() {
			for _, message := range []string{"m", long, "\n"} {
				if p, e := Answer(id, ok, message); !noPacket(p) || e != api.ErrArg {
					t.Error(id, message, e)
				}
			}
		}
		for _, message := range []string{long, "\n" + long, strings.Repeat("\x00", 1<<20)} {
			if p, e := Answer(1, ok, message); !noPacket(p) || e != api.ErrSize {
				t.Error(len(message), e)
			}
		}
		for n := range 256 {
			c := string([]byte{byte(n)})
			for _, message := range []string{c, c + "m", "m" + c, strings.Repeat(c, 255)} {
				if p, e := Answer(1, ok, message); (n >= 32 && n <= 126) != (e == api.OK) || e != api.OK && (e != api.ErrForm || !noPacket(p)) {
					t.Errorf("%q: %d", message, e)
				}
			}
		}
	}
}

func TestReadRequest(t *testing.T) {
	long := strings.Repeat("\xff", 255)
	for _, c := range []struct{ data, name, word string }{
		{"\x05alice\x01x", "alice", "x"},
		{"\x00\x00", "", ""},
		{"\x00\x01x", "", "x"},
		{"\x01n\x00", "n", ""},
		{"\xff" + long + "\xff" + long, long, long},
	} {
		for _, id := range []int{0, 7, 255} {
			if name, word, e := ReadRequest(packet(1, id, c.data)); name != c.name || word != c.word || e != api.OK {
				t.Errorf("%q: %q %q %d", c.data, name, word, e)
			}
		}
	}
}

func TestReadRequestRefuses(t *testing.T) {
	refused := func(p api.Packet, want api.Errno) {
		t.Helper()
		if name, word, e := ReadRequest(p); name != "" || word != "" || e != want {
			t.Errorf("%d %d %q: %q %q %d", p.Code, p.Id, p.Data, name, word, e)
		}
	}
	for _, id := range wrongIds() {
		for _, data := range []string{"", "\x05alice\x01x", "\x05alice\x01xy"} {
			refused(packet(1, id, data), api.ErrArg)
			refused(packet(2, id, data), api.ErrArg)
		}
	}
	for _, code := range append(wrongIds(), 0, 2, 3, 4, 255) {
		for _, data := range []string{"", "\x05alice\x01x", "\x05alice\x01xy"} {
			refused(packet(code, 7, data), api.ErrCode)
		}
	}
	whole := "\x05alice\x03x y"
	for n := range whole {
		refused(packet(1, 7, whole[:n]), api.ErrShort)
	}
	for _, data := range []string{"\xff", "\xff" + strings.Repeat("n", 254), "\x06alice\x01", "\x01n\xff" + strings.Repeat("w", 254)} {
		refused(packet(1, 7, data), api.ErrShort)
	}
	for _, behind := range []string{"\x00", "\x01", "\x01x", strings.Repeat("x", 1000)} {
		refused(packet(1, 7, whole+behind), api.ErrForm)
		refused(packet(1, 7, "\x00\x00"+behind), api.ErrForm)
	}
}

func TestReadAnswer(t *testing.T) {
	long := strings.Repeat("~", 255)
	for _, c := range []struct{ data, message string }{
		{"\x07welcome", "welcome"}, {"", ""}, {"\x00", ""}, {"\x04 \"\\~", " \"\\~"}, {"\xff" + long, long},
	} {
		for _, id := range []int{0, 7, 255} {
			if ok, message, e := ReadAnswer(packet(2, id, c.data)); !ok || message != c.message || e != api.OK {
				t.Errorf("%q: %v %q %d", c.data, ok, message, e)
			}
			if ok, message, e := ReadAnswer(packet(3, id, c.data)); ok || message != c.message || e != api.OK {
				t.Errorf("%q: %v %q %d", c.data, ok, message, e)
			}
		}
	}
	if ok, message, e := ReadAnswer(api.Packet{Code: 2}); !ok || message != "" || e != api.OK {
		t.Error(ok, message, e)
	}
}

func TestReadAnswerRefuses(t *testing.T) {
	refused := func(p api.Packet, want api.Errno) {
		t.Helper()
		if ok, message, e := ReadAnswer(p); ok || message != "" || e != want {
			t.Errorf("%d %d %q: %v %q %d", p.Code, p.Id, p.Data, ok, message, e)
		}
	}
	for _, data := range []string{"", "\x01x", "\x02x", "\x01xy", "\x01\n"} {
		for _, id := range wrongIds() {
			for _, code := range []int{1, 2, 3} {
				refused(packet(code, id, data), api.ErrArg)
			}
		}
		for _, code := range append(wrongIds(), 0, 1, 4, 255) {
			refused(packet(code, 7, data), api.ErrCode)
		}
	}
	for _, code := range []int{2, 3} {
		for _, data := range []string{"\x01", "\x02x", "\x02\n", "\xff" + strings.Repeat("\n", 254)} {
			refused(packet(code, 7, data), api.ErrShort)
		}
		for _, data := range []string{"\x00\x00", "\x01xy", "\x01\ny", "\x00x" + strings.Repeat("x", 1000)} {
			refused(packet(code, 7, data), api.ErrForm)
		}
		for n := range 256 {
			c := string([]byte{byte(n)})
			for _, message := range []string{c, c + "m", "m" + c, strings.Repeat(c, 255)} {
				p := packet(code, 7, part(message))
				if n < 32 || n > 126 {
					refused(p, api.ErrForm)
				} else if ok, got, e := ReadAnswer(p); ok != (code == 2) || got != message || e != api.OK {
					t.Errorf("%q: %v %q %d", message, ok, got, e)
				}
			}
		}
	}
}

func TestPacketsShareNothing(t *testing.T) {
	data := []byte("\x05alice\x01x")
	name, word, _ := ReadRequest(api.Packet{Code: 1, Data: data})
	copy(data, "\x05ALICE\x01X")
	if name != "alice" || word != "x" {
		t.Error(name, word)
	}
	first, _ := Request(1, "alice", "x")
	second, _ := Request(1, "alice", "x")
	clear(append(first.Data, 1, 2, 3)[:4])
	clear(first.Data)
	if string(second.Data) != "\x05alice\x01x" {
		t.Errorf("%q", second.Data)
	}
}

// P12.4

func TestWhatIsWrittenIsReadAgain(t *testing.T) {
	var d draws = 1
	for range 3000 {
		id := d.next(256)
		name, word := d.text(d.next(256), 0, 256), d.text(d.next(256), 0, 256)
		p, e := Request(id, name, word)
		if e != api.OK || p.Id != id {
			t.Fatal(p, e)
		}
		b, _ := opt.Pack(p)
		p, e = opt.Unpack(append(b, "padding"...))
		if gotName, gotWord, wrong := ReadRequest(p); gotName != name || gotWord != word || e != api.OK || wrong != api.OK {
			t.Fatalf("%q %q: %q %q %d", name, word, gotName, gotWord, e)
		}
		ok, message := d.next(2) == 0, d.text(d.next(256), 32, 127)
		p, e = Answer(id, ok, message)
		if e != api.OK || p.Id != id {
			t.Fatal(p, e)
		}
		if gotOk, gotMessage, e := ReadAnswer(p); gotOk != ok || gotMessage != message || e != api.OK {
			t.Fatalf("%v %q: %v %q %d", ok, message, gotOk, gotMessage, e)
		}
	}
}

// P1

func TestReadingEndsOfAnyData(t *testing.T) {
	var d draws = 2
	read := 0
	for range 20000 {
		p := packet(1, 7, d.text(d.next(12), 0, 8))
		if name, word, e := ReadRequest(p); e == api.OK {
			read++
			if string(p.Data) != part(name)+part(word) {
				t.Fatalf("%q", p.Data)
			}
		}
		p.Code = 2
		if _, message, e := ReadAnswer(p); e == api.OK && len(p.Data) > 0 && string(p.Data) != part(message) {
			t.Fatalf("%q", p.Data)
		}
	}
	if read < 100 {
		t.Error(read)
	}
	if _, _, e := ReadRequest(api.Packet{Code: 1, Data: make([]byte, 1<<20)}); e != api.ErrForm {
		t.Error(e)
	}
}
