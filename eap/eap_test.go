package eap

import (
	"bytes"
	refmd5 "crypto/md5"
	"math"
	"strings"
	"testing"

	"tether/api"
)

// draws is a chain of numbers that are the same at each run.
type draws uint64

func (d *draws) next(below int) int {
	*d = *d*6364136223846793005 + 1442695040888963407
	return int(uint64(*d)>>33) % below
}

// bytes answers so many drawn bytes.
func (d *draws) bytes(n int) []byte {
	b := make([]byte, n)
	for i := range b {
		b[i] = byte(d.next(256))
	}
	return b
}

func packet(code, id int, data string) api.Packet {
	return api.Packet{Code: code, Id: id, Data: []byte(data)}
}

func samePacket(a, b api.Packet) bool {
	return a.Code == b.Code && a.Id == b.Id && bytes.Equal(a.Data, b.Data)
}

func noPacket(p api.Packet) bool {
	return p.Code == 0 && p.Id == 0 && p.Data == nil
}

func same(a, b Message) bool {
	return a.Code == b.Code && a.Id == b.Id && a.Type == b.Type && bytes.Equal(a.Value, b.Value) && a.Text == b.Text
}

// wrongBytes are no identifiers and no types.
func wrongBytes() []int {
	return []int{math.MinInt, -256, -1, 256, 257, 1<<32 + 1, math.MaxInt}
}

// wrongCodes are none.
func wrongCodes() []int {
	return []int{math.MinInt, -1, 0, 5, 6, 255, 256, 257, 1<<32 + 1, math.MaxInt}
}

// noNames can not be names.
func noNames() []string {
	return []string{"", "a\"", "a\\", "\n", "a\x1f", "a\x7f", "\xff", "ä", strings.Repeat("n", 65), strings.Repeat("n", 16000)}
}

// digest is what the RFC says that a response's value is.
func digest(id int, word, challenge string) string {
	sum := refmd5.Sum([]byte(string([]byte{byte(id)}) + word + challenge))
	return string(sum[:])
}

// The document's 'Functions'

func TestStatesHaveTheirNumbers(t *testing.T) {
	if Idle != 0 || Asking != 1 || Proving != 2 || Accepted != 3 || Refused != 4 || Gone != 5 {
		t.Error(Idle, Asking, Proving, Accepted, Refused, Gone)
	}
}

// P14.1, P14.5

// right are messages that can be, and their packets' data.
func right() map[string]Message {
	long, all := strings.Repeat("v", 255), strings.Repeat("t", api.MaxData-1)
	return map[string]Message{
		"\x01":                        {Code: 1, Id: 1, Type: 1},
		"\x01who?":                    {Code: 1, Id: 0, Type: 1, Text: "who?"},
		"\x01alice":                   {Code: 2, Id: 255, Type: 1, Text: "alice"},
		"\x01\x00\"\\\xff\n":          {Code: 2, Id: 7, Type: 1, Text: "\x00\"\\\xff\n"},
		"\x01" + all:                  {Code: 2, Id: 7, Type: 1, Text: all},
		"\x02":                        {Code: 2, Id: 7, Type: 2},
		"\x02hear":                    {Code: 1, Id: 7, Type: 2, Text: "hear"},
		"\x02heard":                   {Code: 2, Id: 7, Type: 2, Text: "heard"},
		"\x02" + all:                  {Code: 1, Id: 7, Type: 2, Text: all},
		"\x03\x00":                    {Code: 2, Id: 7, Type: 3, Value: []byte{0}},
		"\x03\x04\xff\x00":            {Code: 2, Id: 7, Type: 3, Value: []byte{4, 255, 0}},
		"\x03" + all:                  {Code: 2, Id: 7, Type: 3, Value: []byte(all)},
		"\x04\x01\x00":                {Code: 1, Id: 7, Type: 4, Value: []byte{0}},
		"\x04\x03abcmill":             {Code: 1, Id: 7, Type: 4, Value: []byte("abc"), Text: "mill"},
		"\x04\x03xyz\x00\n":           {Code: 2, Id: 7, Type: 4, Value: []byte("xyz"), Text: "\x00\n"},
		"\x04\xff" + long:             {Code: 2, Id: 7, Type: 4, Value: []byte(long)},
		"\x04\xff" + long + all[256:]: {Code: 1, Id: 7, Type: 4, Value: []byte(long), Text: all[256:]},
		"\x00":                        {Code: 1, Id: 7, Type: 0},
		"\x05":                        {Code: 2, Id: 7, Type: 5},
		"\x05\x01a":                   {Code: 1, Id: 7, Type: 5, Value: []byte("\x01a")},
		"\xff\x00":                    {Code: 2, Id: 7, Type: 255, Value: []byte{0}},
		"\xfe" + all:                  {Code: 1, Id: 7, Type: 254, Value: []byte(all)},
	}
}

func TestWriteAndRead(t *testing.T) {
	both := func(m Message, data string) {
		t.Helper()
		want := packet(m.Code, m.Id, data)
		if p, e := Write(m); !samePacket(p, want) || e != api.OK {
			t.Error(m, p, e)
		}
		if got, e := Read(want); !same(got, m) || e != api.OK {
			t.Error(want, got, e)
		}
	}
	for data, m := range right() {
		both(m, data)
	}
	for _, id := range []int{0, 7, 255} {
		both(Message{Code: 3, Id: id}, "")
		both(Message{Code: 4, Id: id}, "")
	}
}

func TestWriteRefuses(t *testing.T) {
	refused := func(m Message, want api.Errno) {
		t.Helper()
		if p, e := Write(m); !noPacket(p) || e != want {
			t.Error(m.Code, m.Id, m.Type, len(m.Value), len(m.Text), e)
		}
	}
	one, much := []byte{1}, make([]byte, api.MaxData)
	for _, n := range wrongBytes() {
		for _, code := range append(wrongCodes(), 1, 2, 3, 4) {
			refused(Message{Code: code, Id: n}, api.ErrArg)
			refused(Message{Code: code, Type: n, Value: one, Text: "t"}, api.ErrArg)
			refused(Message{Code: code, Id: n, Type: 3}, api.ErrArg)
		}
	}
	for _, code := range wrongCodes() {
		for _, m := range []Message{{}, {Type: 1}, {Type: 3}, {Type: 4}, {Type: 1, Value: much, Text: "t"}} {
			m.Code = code
			refused(m, api.ErrCode)
		}
	}
	for _, m := range []Message{{}, {Value: one}, {Value: one, Text: "t"}, {Value: much}} {
		m.Code, m.Type = 1, 3
		refused(m, api.ErrCode)
	}
	for _, code := range []int{3, 4} {
		for _, m := range []Message{{Type: 1}, {Type: 255}, {Value: one}, {Text: "t"}, {Type: 3, Value: one}, {Value: much, Text: "t"}} {
			m.Code = code
			refused(m, api.ErrForm)
		}
	}
	for _, code := range []int{1, 2} {
		for _, m := range []Message{
			{Type: 1, Value: one}, {Type: 2, Value: one}, {Type: 1, Value: one, Text: "t"}, {Type: 1, Value: much},
			{Type: 4}, {Type: 4, Text: "t"}, {Type: 4, Value: make([]byte, 256)}, {Type: 4, Value: much},
			{Type: 0, Text: "t"}, {Type: 5, Value: one, Text: "t"}, {Type: 255, Value: much, Text: "t"},
		} {
			m.Code = code
			refused(m, api.ErrForm)
		}
	}
	for _, m := range []Message{{}, {Text: "t"}, {Value: one, Text: "t"}, {Value: much, Text: "t"}} {
		m.Code, m.Type = 2, 3
		refused(m, api.ErrForm)
	}
	all := strings.Repeat("t", api.MaxData)
	for _, m := range []Message{
		{Code: 1, Type: 1, Text: all}, {Code: 2, Type: 2, Text: all}, {Code: 2, Type: 3, Value: much}, {Code: 2, Type: 9, Value: much},
		{Code: 1, Type: 4, Value: make([]byte, 255), Text: all[256:]}, {Code: 2, Type: 4, Value: one, Text: all[2:]}, {Code: 1, Type: 1, Text: all + all},
	} {
		refused(m, api.ErrSize)
	}
}

// unread are packets that can not be read, and the errors.
func unread() map[api.Errno][]api.Packet {
	all := map[api.Errno][]api.Packet{
		api.ErrShort: {
			packet(1, 7, ""), packet(2, 7, ""), packet(2, 7, "\x03"), packet(1, 7, "\x04"), packet(2, 7, "\x04"),
			packet(1, 7, "\x04\x01"), packet(2, 7, "\x04\x04abc"), packet(1, 7, "\x04\xff"+strings.Repeat("v", 254)),
		},
		api.ErrForm: {packet(3, 7, "\x00"), packet(4, 7, "\x01alice"), packet(1, 7, "\x04\x00"), packet(2, 7, "\x04\x00mill")},
		api.ErrCode: {packet(1, 7, "\x03"), packet(1, 7, "\x03\x04")},
	}
	for _, data := range []string{"", "\x01alice", "\x03", "\x04\x00"} {
		for _, id := range wrongBytes() {
			all[api.ErrArg] = append(all[api.ErrArg], packet(1, id, data), packet(2, id, data), packet(3, id, data), packet(9, id, data))
		}
		for _, code := range wrongCodes() {
			all[api.ErrCode] = append(all[api.ErrCode], packet(code, 7, data))
		}
	}
	return all
}

func TestReadRefuses(t *testing.T) {
	for want, l := range unread() {
		for _, p := range l {
			if m, e := Read(p); !same(m, Message{}) || e != want {
				t.Error(p, m, e)
			}
		}
	}
}

func TestWhatIsReadIsWrittenAgain(t *testing.T) {
	var d draws = 1
	read := 0
	for range 100000 {
		p := api.Packet{Code: d.next(6), Id: d.next(258) - 1, Data: append([]byte{byte(d.next(7)), byte(d.next(5))}, d.bytes(d.next(9))...)}
		p.Data = p.Data[:min(d.next(12), len(p.Data))]
		m, e := Read(p)
		if e != api.OK {
			continue
		}
		read++
		if q, e := Write(m); !samePacket(p, q) || e != api.OK {
			t.Fatal(p, m, q, e)
		}
	}
	if read < 10000 {
		t.Error(read)
	}
}

func TestWhatIsWrittenIsReadAgain(t *testing.T) {
	var d draws = 2
	written := 0
	for range 100000 {
		m := Message{Code: d.next(6), Id: d.next(258) - 1, Type: d.next(7), Value: d.bytes(d.next(3)), Text: string(d.bytes(d.next(3)))}
		p, e := Write(m)
		if e != api.OK {
			continue
		}
		written++
		if got, e := Read(p); !same(got, m) || e != api.OK {
			t.Fatal(m, p, got, e)
		}
	}
	if written < 5000 {
		t.Error(written)
	}
}

func TestPacketsAndMessagesShareNothing(t *testing.T) {
	for data, m := range right() {
		m.Value = bytes.Clone(m.Value)
		p, _ := Write(m)
		got, _ := Read(p)
		_ = append(got.Value, "zzzz"...)
		clear(m.Value)
		if string(p.Data) != data {
			t.Error(p)
		}
		clear(got.Value)
		if string(p.Data) != data {
			t.Error(p)
		}
		again, _ := Read(p)
		kept := bytes.Clone(again.Value)
		clear(p.Data)
		if !bytes.Equal(again.Value, kept) {
			t.Error(again)
		}
	}
}
