package md5

import (
	"bytes"
	crypto "crypto/md5"
	"math"
	"strings"
	"testing"

	"tether/api"
)

// draws is a chain of numbers that are the same at each run.
type draws uint64

func (d *draws) next(below int) int {
	*d = *d*6364136223846793005 + 1442695040888963407
	return int(uint64(*d)>>33) % below
}

func (d *draws) bytes(n int) []byte {
	b := make([]byte, n)
	for i := range b {
		b[i] = byte(d.next(256))
	}
	return b
}

// P4.1

func TestSumAsInTheExamplesAndTheRfc(t *testing.T) {
	for text, want := range map[string]string{
		"":                           "d41d8cd98f00b204e9800998ecf8427e",
		"a":                          "0cc175b9c0f1b6a831c399e269772661",
		"abc":                        "900150983cd24fb0d6963f7d28e17f72",
		"message digest":             "f96b697d7cb7938d525a2f31aaf161d0",
		"abcdefghijklmnopqrstuvwxyz": "c3fcd3d76192e4007dfb496cca67e13b",
		"ABCDEFGHIJKLMNOPQRSTUVWXYZabcdefghijklmnopqrstuvwxyz0123456789": "d174ab98d277d9f5a5611c2c9f419d9f",
		strings.Repeat("1234567890", 8):                                  "57edf4a22be3c955ac49da2e2107b67a",
	} {
		if sum := Sum([]byte(text)); Hex(sum[:]) != want {
			t.Errorf("%q: %x", text, sum)
		}
	}
	if Sum(nil) != Sum([]byte{}) {
		t.Error("none and nil differ")
	}
}

func TestSumOfEachLength(t *testing.T) {
	var d draws = 1
	for n := range 400 {
		b := d.bytes(n)
		kept := bytes.Clone(b)
		if Sum(b) != crypto.Sum(b) {
			t.Fatal(n, "bytes")
		}
		if !bytes.Equal(b, kept) {
			t.Fatal("what was handed in is changed")
		}
	}
	b := d.bytes(1<<20 + 55)
	if Sum(b) != crypto.Sum(b) || Sum(b[3:100]) != crypto.Sum(b[3:100]) {
		t.Error("many bytes")
	}
}

func TestSumDoesNotWriteBehindWhatItTakes(t *testing.T) {
	room := bytes.Repeat([]byte{7}, 200)
	for n := range room {
		Sum(room[:n])
	}
	if !bytes.Equal(room, bytes.Repeat([]byte{7}, 200)) {
		t.Error("bytes behind what was handed in are changed")
	}
}

func TestAddendsAreSines(t *testing.T) {
	for i, k := range addends {
		if want := uint32(math.Floor(math.Abs(math.Sin(float64(i+1))) * (1 << 32))); k != want {
			t.Errorf("%d: %x instead of %x", i, k, want)
		}
	}
}

func TestEqual(t *testing.T) {
	var d draws = 2
	if !Equal(nil, nil) || !Equal(nil, []byte{}) || !Equal([]byte{}, nil) {
		t.Error("none and nil are not the same")
	}
	for n := range 40 {
		a := d.bytes(n)
		b := bytes.Clone(a)
		if !Equal(a, b) {
			t.Fatal("the same are not the same", n)
		}
		if Equal(a, append(b, 0)) || Equal(append(b, 0), a) {
			t.Fatal("one byte more is the same", n)
		}
		for at := range 8 * n {
			b := bytes.Clone(a)
			b[at/8] ^= 1 << (at % 8)
			if Equal(a, b) || Equal(b, a) {
				t.Fatal("another bit is the same", n, at)
			}
		}
	}
	if Equal([]byte{1, 2}, []byte{2, 1}) || Equal([]byte{0x55, 0xaa}, []byte{0xaa, 0x55}) {
		t.Error("another order is the same")
	}
	if Equal(make([]byte, 256), nil) || Equal(make([]byte, 65536), make([]byte, 131072)) {
		t.Error("another number of bytes is the same")
	}
}

func TestHexWritesTwoSmallDigitsAByte(t *testing.T) {
	if s := Hex([]byte{0x01, 0x23, 0x45, 0x67, 0x89, 0xab, 0xcd, 0xef, 0, 255}); s != "0123456789abcdef00ff" {
		t.Error(s)
	}
	if s := Hex(nil); s != "" {
		t.Error(s)
	}
}

func TestUnhexReadsDigitsOfEitherSize(t *testing.T) {
	if b, e := Unhex("aF"); !bytes.Equal(b, []byte{0xaf}) || e != api.OK {
		t.Error(b, e)
	}
	if b, e := Unhex(""); len(b) != 0 || e != api.OK {
		t.Error(b, e)
	}
	for i := range 256 {
		c := string([]byte{byte(i)})
		at := strings.Index("0123456789abcdef", strings.ToLower(c))
		for _, s := range []string{c + "0", "0" + c, "12" + c + "4", "123" + c} {
			b, e := Unhex(s)
			if (at >= 0) != (e == api.OK) || at < 0 && (e != api.ErrForm || b != nil) {
				t.Errorf("%q: %x %d", s, b, e)
			}
		}
		if b, _ := Unhex(c + "5"); at >= 0 && !bytes.Equal(b, []byte{byte(16*at + 5)}) {
			t.Errorf("%q: %x", c, b)
		}
	}
}

func TestUnhexRefuses(t *testing.T) {
	for _, s := range []string{"0", "abc", "g", "00000", "0x", "0x12", "+1", "-1", "_1", "1_", "1_00", " 1", "1 ", "\x00\x00", "äb", "zz", "0\n", strings.Repeat("0", 9999)} {
		if b, e := Unhex(s); b != nil || e != api.ErrForm {
			t.Errorf("%q: %x %d", s, b, e)
		}
	}
}

func TestResponseIsTheDigestOfAllThree(t *testing.T) {
	var d draws = 3
	for id := range 256 {
		word, challenge := string(d.bytes(d.next(80))), d.bytes(d.next(80))
		all := append(append([]byte{byte(id)}, word...), challenge...)
		if got, e := Response(id, word, challenge); got != crypto.Sum(all) || e != api.OK {
			t.Fatal(id, word, challenge, got, e)
		}
	}
	if got, e := Response(0, "", nil); got != crypto.Sum([]byte{0}) || e != api.OK {
		t.Error(got, e)
	}
	room := []byte{1, 2, 3, 4}
	Response(5, "word", room[:2])
	if !bytes.Equal(room, []byte{1, 2, 3, 4}) {
		t.Error("what was handed in is changed")
	}
}

func TestResponseRefusesWhatIsNoByte(t *testing.T) {
	for _, id := range []int{-1, 256, 257, 1 << 32, -256, math.MinInt, math.MaxInt} {
		if got, e := Response(id, "x", []byte{1}); got != [16]byte{} || e != api.ErrArg {
			t.Error(id, got, e)
		}
	}
}

// P4.5

func TestUnhexTellsWhatHexWrote(t *testing.T) {
	var d draws = 4
	for n := range 300 {
		b := d.bytes(n)
		s := Hex(b)
		for _, s := range []string{s, strings.ToUpper(s)} {
			if got, e := Unhex(s); !bytes.Equal(got, b) || e != api.OK {
				t.Fatal(s, got, e)
			}
		}
	}
}
