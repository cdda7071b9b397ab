package chap

import (
	"bytes"
	refmd5 "crypto/md5"
	"math"
	"strings"
	"testing"

	"tether/api"
)

// draws is a chain of numbers that are the same at each run.
type draws uint64

func (d *draws) next(below int) int {
	*d = *d*6364136223846793005 + 1442695040888963407
	return int(uint64(*d)>>33) % below
}

// bytes answers so many drawn bytes.
func (d *draws) bytes(n int) []byte {
	b := make([]byte, n)
	for i := range b {
		b[i] = byte(d.next(256))
	}
	return b
}

// name answers a drawn name.
func (d *draws) name() string {
	b := make([]byte, 1+d.next(64))
	for i := range b {
		for b[i] < 32 || b[i] == '"' || b[i] == '\\' {
			b[i] = byte(32 + d.next(95))
		}
	}
	return string(b)
}

func packet(code, id int, data string) api.Packet {
	return api.Packet{Code: code, Id: id, Data: []byte(data)}
}

func samePacket(a, b api.Packet) bool {
	return a.Code == b.Code && a.Id == b.Id && bytes.Equal(a.Data, b.Data)
}

func noPacket(p api.Packet) bool {
	return p.Code == 0 && p.Id == 0 && p.Data == nil
}

// wrongIds are no identifiers.
func wrongIds() []int {
	return []int{math.MinInt, -256, -1, 256, 257, 1<<32 + 1, math.MaxInt}
}

// noNames can not be names.
func noNames() []string {
	return []string{"", "a\"", "a\\", "\n", "a\x1f", "a\x7f", "\xff", "ä", strings.Repeat("n", 65), strings.Repeat("n", 20000)}
}

// names can be names, at their edges.
func names() []string {
	return []string{"a", " ", "~", "*", "#", "mill", strings.Repeat("n", 64)}
}

// part answers a value as it stands in a packet.
func part(value string) string {
	return string([]byte{byte(len(value))}) + value
}

// digest is what the RFC says that a Response's value is.
func digest(id int, word, challenge string) string {
	sum := refmd5.Sum([]byte(string([]byte{byte(id)}) + word + challenge))
	return string(sum[:])
}

// The document's 'Functions'

func TestNumbers(t *testing.T) {
	if Challenge != 1 || Response != 2 || Success != 3 || Failure != 4 {
		t.Error(Challenge, Response, Success, Failure)
	}
	if Idle != 0 || Waits != 1 || Passed != 2 || Refused != 3 {
		t.Error(Idle, Waits, Passed, Refused)
	}
}

// P13.1

func TestMake(t *testing.T) {
	long := strings.Repeat("\xff", 255)
	for _, code := range []int{Challenge, Response} {
		for _, id := range []int{0, 1, 7, 127, 128, 255} {
			for _, value := range []string{"abc", "\x00", long, long[1:]} {
				for _, name := range names() {
					want := packet(code, id, part(value)+name)
					if p, e := Make(code, id, []byte(value), name); !samePacket(p, want) || e != api.OK {
						t.Error(code, id, value, name, p, e)
					}
				}
			}
		}
	}
	if p, _ := Make(1, 7, []byte("abc"), "mill"); string(p.Data) != "\x03abcmill" {
		t.Error(p)
	}
}

func TestMakeRefuses(t *testing.T) {
	refused := func(code, id int, value []byte, name string, want api.Errno) {
		t.Helper()
		if p, e := Make(code, id, value, name); !noPacket(p) || e != want {
			t.Error(code, id, len(value), name, p, e)
		}
	}
	values := [][]byte{nil, {}, make([]byte, 256), make([]byte, 1<<17)}
	for _, name := range append(noNames(), "mill") {
		for _, value := range append(values, []byte("abc")) {
			for _, code := range []int{0, 3, 4, -1, 5, 257, 258, math.MinInt, math.MaxInt} {
				refused(code, 7, value, name, api.ErrCode)
				refused(code, 256, value, name, api.ErrCode)
			}
			for _, id := range wrongIds() {
				refused(Challenge, id, value, name, api.ErrCode)
				refused(Response, id, value, name, api.ErrCode)
			}
		}
		for _, value := range values {
			refused(Challenge, 7, value, name, api.ErrSize)
			refused(Response, 7, value, name, api.ErrSize)
		}
	}
	for _, name := range noNames() {
		refused(Challenge, 7, []byte("abc"), name, api.ErrName)
		refused(Response, 7, make([]byte, 255), name, api.ErrName)
	}
}

func TestRead(t *testing.T) {
	long := strings.Repeat("\xff", 255)
	for _, code := range []int{Challenge, Response} {
		for _, id := range []int{0, 7, 255} {
			for _, value := range []string{"abc", "\x00", long} {
				for _, name := range names() {
					got, who, e := Read(packet(code, id, part(value)+name))
					if string(got) != value || who != name || e != api.OK {
						t.Error(code, id, value, name, got, who, e)
					}
				}
			}
		}
	}
}

// unread are data that can not be read, and the errors.
func unread() map[api.Errno][]string {
	all := map[api.Errno][]string{
		api.ErrShort: {"", "\x01", "\x04abc", "\xff" + strings.Repeat("v", 254), "\xffmill"},
		api.ErrSize:  {"\x00", "\x00mill", "\x00\n", "\x00" + strings.Repeat("n", 65)},
		api.ErrName:  {"\x01a", "\x03abc"},
	}
	for _, name := range noNames() {
		all[api.ErrName] = append(all[api.ErrName], "\x03abc"+name)
	}
	return all
}

func TestReadRefuses(t *testing.T) {
	refused := func(p api.Packet, want api.Errno) {
		t.Helper()
		if value, name, e := Read(p); len(value) != 0 || name != "" || e != want {
			t.Error(p, value, name, e)
		}
	}
	for want, l := range unread() {
		for _, data := range append(l, "\x03abcmill") {
			for _, code := range []int{0, 3, 4, -1, 5, 257, 258, math.MinInt, math.MaxInt} {
				refused(packet(code, 7, data), api.ErrCode)
			}
			for _, id := range wrongIds() {
				refused(packet(Challenge, id, data), api.ErrCode)
				refused(packet(Response, id, data), api.ErrCode)
			}
		}
		for _, data := range l {
			refused(packet(Challenge, 7, data), want)
			refused(packet(Response, 0, data), want)
		}
	}
	refused(api.Packet{Code: Challenge}, api.ErrShort)
}

func TestTold(t *testing.T) {
	for _, code := range []int{Success, Failure} {
		for _, id := range []int{0, 7, 255} {
			for _, message := range []string{"", "welcome", " \"\\~", strings.Repeat("~", 255)} {
				if p, e := Told(code, id, message); !samePacket(p, packet(code, id, message)) || e != api.OK {
					t.Error(code, id, message, p, e)
				}
			}
		}
	}
}

func TestToldRefuses(t *testing.T) {
	refused := func(code, id int, message string, want api.Errno) {
		t.Helper()
		if p, e := Told(code, id, message); !noPacket(p) || e != want {
			t.Error(code, id, message, p, e)
		}
	}
	wrong := []string{"\n", "a\x1f", "\x7fa", "\xff", "ä", strings.Repeat("m", 256), strings.Repeat("m", 1<<17)}
	for _, message := range append(wrong, "welcome") {
		for _, code := range []int{0, 1, 2, -1, 5, 259, 260, math.MinInt, math.MaxInt} {
			refused(code, 7, message, api.ErrCode)
		}
		for _, id := range wrongIds() {
			refused(Success, id, message, api.ErrCode)
			refused(Failure, id, message, api.ErrCode)
		}
	}
	for _, message := range wrong {
		refused(Success, 7, message, api.ErrForm)
		refused(Failure, 7, message, api.ErrForm)
	}
}

// P13.8

func TestReadTellsWhatMakeWrote(t *testing.T) {
	var d draws = 1
	for range 5000 {
		code, id, value, name := Challenge+d.next(2), d.next(256), d.bytes(1+d.next(255)), d.name()
		p, e := Make(code, id, value, name)
		got, who, wrong := Read(p)
		if !bytes.Equal(got, value) || who != name || e != api.OK || wrong != api.OK {
			t.Fatal(code, id, value, name, got, who, e, wrong)
		}
	}
}

func TestWhatIsReadIsMadeAgain(t *testing.T) {
	var d draws = 2
	read := 0
	for range 50000 {
		p := api.Packet{Code: d.next(4), Id: d.next(258) - 1, Data: append([]byte{byte(d.next(6))}, d.name()...)}
		if d.next(9) == 0 {
			p.Data = d.bytes(d.next(9))
		}
		value, name, e := Read(p)
		if e != api.OK {
			continue
		}
		read++
		if q, e := Make(p.Code, p.Id, value, name); !samePacket(p, q) || e != api.OK {
			t.Fatal(p, q, e)
		}
	}
	if read < 5000 {
		t.Error(read)
	}
}

func TestPacketsShareNothing(t *testing.T) {
	value := []byte("abc")
	p, _ := Make(Challenge, 7, value, "mill")
	value[0] = 'z'
	read, _, _ := Read(p)
	_ = append(read, "zzzz"...)
	read[1] = 'z'
	if again, name, _ := Read(p); string(p.Data) != "\x03abcmill" || string(again) != "abc" || name != "mill" {
		t.Errorf("%q %q %q", p.Data, again, name)
	}
	clear(p.Data)
	if string(value) != "zbc" || string(read) != "azc" {
		t.Errorf("%q %q", value, read)
	}
}
