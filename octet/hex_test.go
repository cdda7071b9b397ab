package octet

import (
	"bytes"
	"strings"
	"testing"

	"tether/api"
)

// P1.4

func TestHexWritesTwoDigitsAByte(t *testing.T) {
	if s := Hex([]byte{10, 255}); s != "0aff" {
		t.Error(s)
	}
	if s := Hex([]byte{0x01, 0x23, 0x45, 0x67, 0x89, 0xab, 0xcd, 0xef}); s != "0123456789abcdef" {
		t.Error(s)
	}
	if s := Hex(nil); s != "" {
		t.Error(s)
	}
}

func TestUnhexReadsEitherCase(t *testing.T) {
	want := []byte{0x01, 0x23, 0x45, 0x67, 0x89, 0xab, 0xcd, 0xef}
	for _, s := range []string{"0123456789abcdef", "0123456789ABCDEF", "0123456789aBCdeF"} {
		if b, e := Unhex(s); !bytes.Equal(b, want) || e != api.OK {
			t.Error(s, b, e)
		}
	}
	if b, e := Unhex(""); len(b) != 0 || e != api.OK {
		t.Error(b, e)
	}
}

func TestUnhexRefusesAnOddNumber(t *testing.T) {
	for _, s := range []string{"0", "abc", "00000", "g", "0g0"} {
		if b, e := Unhex(s); b != nil || e != api.ErrForm {
			t.Error(s, b, e)
		}
	}
}

func TestUnhexRefusesWhatIsNoDigit(t *testing.T) {
	for i := range 256 {
		c := string([]byte{byte(i)})
		right := strings.Contains("0123456789abcdefABCDEF", c)
		for _, s := range []string{c + "0", "0" + c, "12" + c + "4", "123" + c, c + c} {
			b, e := Unhex(s)
			if right != (e == api.OK) || !right && (e != api.ErrForm || b != nil) {
				t.Errorf("%q: %x %d", s, b, e)
			}
		}
	}
}

// P1.8

func TestUnhexTellsWhatHexWrote(t *testing.T) {
	for i := range 65536 {
		b := []byte{byte(i >> 8), byte(i)}
		s := Hex(b)
		if got, e := Unhex(s); !bytes.Equal(got, b) || e != api.OK {
			t.Fatal(b, s, got, e)
		}
		if got, e := Unhex(strings.ToUpper(s)); !bytes.Equal(got, b) || e != api.OK {
			t.Fatal(b, s, got, e)
		}
	}
	var d draws = 5
	for n := range 100 {
		b := d.bytes(n)
		if got, e := Unhex(Hex(b)); !bytes.Equal(got, b) || e != api.OK {
			t.Fatal(b, got, e)
		}
	}
}
